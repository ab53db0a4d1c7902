/- The walk of DeclareMade. -/
import Derived.Test.YtdkfbikpadehdaaDoorEK
import Derived.Deep.AppendLies
namespace Go.Proofs.YtdkfbikpadehdaaDoor.Dec
open Go.RowKit
set_option linter.unusedVariables false
set_option linter.unusedSimpArgs false
open Lab (RetS ret_str str str_size str_list str_eta str_inj u8v info5 info_parts Strs BysR bys_new)
theorem str_app (a b : List UInt8) : str (a ++ b) = str a ++ str b := by
  apply ByteArray.ext
  rw [ByteArray.data_append]
  simp [str]
theorem mk_snoc {P : List Prt} {k : Nat} (h : k < P.length) : mk (P.take (k + 1)) = mk (P.take k) ++ mk1 P[k] := by
  unfold mk
  rw [List.take_add_one, List.getElem?_eq_getElem h, List.flatMap_append]
  congr 1
  simp
theorem mk1_len {p : Prt} (h1 : p.1.length ≤ 20) (h2 : p.2.length ≤ 20) : (mk1 p).length ≤ 44 := by
  simp [mk1]; omega
/-- The first k parts are as they should be. -/
def Fits (P : List Prt) (k : Nat) : Prop := (∀ p ∈ P.take k, fit p) ∧ (mk (P.take k)).length ≤ 44 * k
theorem Fits.zero (P : List Prt) : Fits P 0 := ⟨by simp, by simp [mk]⟩
theorem Fits.step {P : List Prt} {k : Nat} (h : Fits P k) (hk : k < P.length) (hf : fit P[k]) (h1 : P[k].1.length ≤ 20) (h2 : P[k].2.length ≤ 20) : Fits P (k + 1) := by
  refine ⟨fun p hp => ?_, ?_⟩
  · rw [List.take_add_one, List.getElem?_eq_getElem hk] at hp
    rcases List.mem_append.1 hp with hp | hp
    · exact h.1 p hp
    · simp at hp; subst hp; exact hf
  · have := h.2
    have h3 := mk1_len h1 h2
    rw [mk_snoc hk, List.length_append]; omega
theorem cat_mk (F n v : List UInt8) : str F ++ ((((⟨#[32]⟩ : ByteArray) ++ str n) ++ ⟨#[61, 34]⟩ ++ str v) ++ ⟨#[34]⟩) = str (F ++ mk1 (n, v)) := by
  have e1 : (⟨#[32]⟩ : ByteArray) = str [32] := rfl
  have e2 : (⟨#[61, 34]⟩ : ByteArray) = str [61, 34] := rfl
  have e3 : (⟨#[34]⟩ : ByteArray) = str [34] := rfl
  rw [e1, e2, e3, ← str_app, ← str_app, ← str_app, ← str_app, ← str_app]
  simp [mk1]
theorem cat_end (F bh : List UInt8) : (str F ++ (⟨#[63, 62]⟩ : ByteArray)) ++ str bh = str (F ++ 63 :: 62 :: bh) := by
  have e1 : (⟨#[63, 62]⟩ : ByteArray) = str [63, 62] := rfl
  rw [e1, ← str_app, ← str_app]
  simp
theorem cat_sp (F : List UInt8) : str F ++ (⟨#[32]⟩ : ByteArray) = str (F ++ [32]) := by
  have e1 : (⟨#[32]⟩ : ByteArray) = str [32] := rfl
  rw [e1, ← str_app]
set_option maxRecDepth 100000 in
set_option maxHeartbeats 16000000 in
theorem made_walk (ns vs : List (List UInt8)) (u v : Value) (bh : List UInt8) (w : World) (hm0 : Mx w) (hu : Strs w u ns) (hv : Strs w v vs) (hns : ns.length ≤ 2 ^ 63 - 1) (hvs : vs.length ≤ 2 ^ 63 - 1) (ht : bh.length ≤ 2 ^ 63 - 1)
    (hn1 : ∀ x ∈ ns, x.length ≤ 2 ^ 63 - 1) (hv1 : ∀ x ∈ vs, x.length ≤ 2 ^ 63 - 1) : Calls Tryd.prog 5 #[u, v, .string (str bh)] w fun e w' => RetB true w e w' := by
  have HW : Hid (∀ w', Below w.heap.size w w' → Calls Tryd.prog 7 #[] w' fun e w'' => RetB true w' e w'') := Lib.hid fun w' hb => wakes_any w' (hm0.next hb)
  have HMX : Hid (∀ w', Below w.heap.size w w' → Mx w') := Lib.hid fun w' hb => hm0.next hb
  clear hm0
  unfold RetB at HW ⊢
  obtain ⟨pu, cu, rfl⟩ := hu.form
  obtain ⟨pv, cv, rfl⟩ := hv.form
  have htz := str_size bh
  obtain ⟨t, ht'⟩ : ∃ t, str bh = t := ⟨_, rfl⟩
  have HTT := Lib.hid ht'
  have HTZ : Hid (bh.length = t.size) := Lib.hid (by rw [← ht', str_size])
  rw [ht'] at htz ⊢
  have ht6 : t.size ≤ 2 ^ 63 - 1 := by omega
  clear ht'
  by_cases hA : 4 < ns.length
  · have d0 : decide ((4 : Int) < (ns.length : Int)) = true := by simp; omega
    clear hu hv hn1 hv1
    go_enter Tryd.func5, Tryd.ntmps5
    go_wp2_with (go_at_call 7; refine (HW.out _ (Below.refl _ _)).mono ?_; rintro _ w1 ⟨rfl, hb1⟩; clear HW)
    go_ret
    exact ⟨rfl, hb1⟩
  have d0 : decide ((4 : Int) < (ns.length : Int)) = false := by simp; omega
  by_cases hB : vs.length < ns.length
  · have d1 : decide ((vs.length : Int) < (ns.length : Int)) = true := by simp; omega
    clear hu hv hn1 hv1
    go_enter Tryd.func5, Tryd.ntmps5
    go_wp2_with (go_at_call 7; refine (HW.out _ (Below.refl _ _)).mono ?_; rintro _ w1 ⟨rfl, hb1⟩; clear HW)
    go_ret
    exact ⟨rfl, hb1⟩
  have d1 : decide ((vs.length : Int) < (ns.length : Int)) = false := by simp; omega
  by_cases hC : 2000 < t.size
  · have d2 : decide ((2000 : Int) < (t.size : Int)) = true := by simp; omega
    clear hu hv hn1 hv1
    go_enter Tryd.func5, Tryd.ntmps5
    go_wp2_with (go_at_call 7; refine (HW.out _ (Below.refl _ _)).mono ?_; rintro _ w1 ⟨rfl, hb1⟩; clear HW)
    go_ret
    exact ⟨rfl, hb1⟩
  have d2 : decide ((2000 : Int) < (t.size : Int)) = false := by simp; omega
  have ht7 : t.size ≤ 2000 := by omega
  obtain ⟨P, hP⟩ : ∃ P, ns.zip vs = P := ⟨_, rfl⟩
  have hPl : P.length = ns.length := by rw [← hP, List.length_zip]; omega
  have hPk : ∀ k (h : k < P.length) (h1 : k < ns.length) (h2 : k < vs.length), P[k] = (ns[k], vs[k]) := fun k h h1 h2 => by subst hP; simp
  obtain ⟨N, hN⟩ : ∃ N, ns.length = N := ⟨_, rfl⟩
  have HNh := Lib.hid hN
  have HPL := Lib.hid hPl
  have HPK := Lib.hid hPk
  have HU := Lib.hid hu
  have HV := Lib.hid hv
  have HN1 := Lib.hid hn1
  have HV1 := Lib.hid hv1
  have HB' : Hid (¬ vs.length < ns.length) := Lib.hid hB
  obtain ⟨M, hM⟩ : ∃ M, vs.length = M := ⟨_, rfl⟩
  have HMh := Lib.hid hM
  rw [hN] at d0 d1 HU hA hB hns ⊢
  rw [hM] at d1 HV hB hvs ⊢
  have hN4 : N ≤ 4 := by omega
  have hNM : N ≤ M := by omega
  have d1n : decide (M < N) = false := by simp; omega
  clear hP hPl hPk hN hM hu hv hn1 hv1 hA hB hC ht htz hns ht6
  obtain ⟨i0, hi, hz0, hz1, hz2⟩ := info_parts infoP3
  go_enter Tryd.func5, Tryd.ntmps5
  go_wp2_with fail
  go_loopg [33, 7, 8] (N + 1) (fun g q33 q7 q8 wr => ∃ (k : Nat) (vw : Value) (B : ByteArray), k + g = N + 1 ∧ q33 = .int .i64 (k : Int) ∧ k ≤ N ∧ q7 = .string B ∧ vw = q8 ∧ B.size ≤ 200 ∧ Hid (B = str (frontX ++ mk (P.take k))) ∧ Hid (Fits P k) ∧ Hid (wr.ownsRow w.heap.size 38 2 vw k (cellsP (P.take k))) ∧ Hid (Below w.heap.size w wr))
  case atStart => exact ⟨0, .slice none 0 0, _, by omega, rfl, by omega, rfl, rfl, by decide, Lib.hid rfl, Lib.hid (Fits.zero P), Lib.hid (World.ownsRow_nil _ _ _ _), Lib.hid (Below.refl _ _)⟩
  case round =>
    obtain ⟨k, vw, B, hkg, rfl, hk7, rfl, rfl, hBs, HBs, HF, HO, HBW⟩ := hrel
    have hU := Lib.hid (HU.out.below HBW.out)
    have hV := Lib.hid (HV.out.below HBW.out)
    by_cases hlt : k < N
    · have hkn : k < ns.length := by rw [HNh.out]; exact hlt
      have hkm : k < vs.length := by rw [HMh.out]; omega
      have hkp : k < P.length := by rw [HPL.out]; exact hkn
      have hPk := HPK.out k hkp hkn hkm
      obtain ⟨bu, ou, rfl, x1⟩ := hU.out.at hkn
      obtain ⟨bv, ov, rfl, y1⟩ := hV.out.at hkm
      have hnl := HN1.out ns[k] (List.getElem_mem hkn)
      have hvl := HV1.out vs[k] (List.getElem_mem hkm)
      have hVat : ∀ W, Strs W (.slice (some ⟨bv, ov, none⟩) M cv) vs → W.cell? ⟨bv, ov + k, none⟩ = some (.string (str vs[k])) := fun W h => by
        obtain ⟨_, _, e, h2⟩ := h.at hkm
        cases e
        exact h2
      obtain ⟨nm, hnm⟩ : ∃ nm, ns[k] = nm := ⟨_, rfl⟩
      obtain ⟨vl, hvl'⟩ : ∃ vl, vs[k] = vl := ⟨_, rfl⟩
      rw [hnm] at x1 hPk hnl
      rw [hvl'] at y1 hPk hvl hVat
      have hz1' := str_size nm
      have hz2' := str_size vl
      obtain ⟨s1, hs1⟩ : ∃ s1, str nm = s1 := ⟨_, rfl⟩
      obtain ⟨s2, hs2⟩ : ∃ s2, str vl = s2 := ⟨_, rfl⟩
      have HS1 := Lib.hid hs1
      have HS2 := Lib.hid hs2
      rw [hs1] at x1 hz1'
      rw [hs2] at y1 hz2' hVat
      have HZ1 := Lib.hid hz1'
      have HZ2 := Lib.hid hz2'
      have hl1 : s1.size ≤ 2 ^ 63 - 1 := by omega
      have hl2 : s2.size ≤ 2 ^ 63 - 1 := by omega
      have HPk := Lib.hid hPk
      have HVat := Lib.hid hVat
      have hk0 : (0 : Int) ≤ (k : Int) := by omega
      have hk3 : (k : Int) < (N : Int) := by omega
      have hk4 : (k : Int) < (M : Int) := by omega
      clear hnm hvl' hPk hVat hs1 hs2 hz1' hz2' hnl hvl
      by_cases hA : s1.size = 0
      · have dA : ((s1.size : Int) == 0) = true := by rw [hA]; rfl
        clear hA
        go_wp2_with (go_at_call 7; refine (HW.out _ (HBW.out)).mono ?_; rintro _ w1 ⟨rfl, hb1⟩; clear HW)
        try rw [Exit.noGoto_ret]
        go_ret
        exact ⟨rfl, below_call HBW.out hb1⟩
      have dA : ((s1.size : Int) == 0) = false := by rw [beq_eq_false_iff_ne]; omega
      by_cases hB : 20 < s1.size
      · have dB : decide ((20 : Int) < (s1.size : Int)) = true := by simp; omega
        clear hA
        go_wp2_with (go_at_call 7; refine (HW.out _ (HBW.out)).mono ?_; rintro _ w1 ⟨rfl, hb1⟩; clear HW)
        try rw [Exit.noGoto_ret]
        go_ret
        exact ⟨rfl, below_call HBW.out hb1⟩
      have dB : decide ((20 : Int) < (s1.size : Int)) = false := by simp; omega
      by_cases hC : 20 < s2.size
      · have dC : decide ((20 : Int) < (s2.size : Int)) = true := by simp; omega
        clear hA hB
        go_wp2_with (go_at_call 7; refine (HW.out _ (HBW.out)).mono ?_; rintro _ w1 ⟨rfl, hb1⟩; clear HW)
        try rw [Exit.noGoto_ret]
        go_ret
        exact ⟨rfl, below_call HBW.out hb1⟩
      have dC : decide ((20 : Int) < (s2.size : Int)) = false := by simp; omega
      have hl1' : s1.size ≤ 20 := by omega
      have hl2' : s2.size ≤ 20 := by omega
      have HA0 : Hid (nm ≠ []) := Lib.hid fun h => hA (by rw [HZ1.out, h]; rfl)
      clear hA hB hC hl1 hl2
      obtain ⟨cap1, W1, hcv1, hR1, hBW1, hcap1, hsz1, _⟩ := bys_new wr s1
      have e1 : s1.data.toList = nm := by rw [← HS1.out]; rfl
      rw [e1] at hR1
      have HR1 := Lib.hid hR1
      have HBW1 := Lib.hid hBW1
      have HV1' := Lib.hid (hV.out.below hBW1)
      have y2 := HVat.out W1 HV1'.out
      obtain ⟨cap2, W2, hcv2, hR2, hBW2, hcap2, hsz2, _⟩ := bys_new W1 s2
      have e2 : s2.data.toList = vl := by rw [← HS2.out]; rfl
      rw [e2] at hR2
      have HR2 := Lib.hid hR2
      have HBW2 := Lib.hid hBW2
      have y3 := HVat.out W2 (HV1'.out.below hBW2)
      have HO2 := Lib.hid (own_below (m := 0) (own_below (m := 0) HO.out hBW1) hBW2)
      have HBt := Lib.hid (below_call (below_call HBW.out hBW1) hBW2)
      have HSZ2 : Hid (w.heap.size ≤ W2.heap.size) := Lib.hid HBt.out.size
      clear e1 e2 hR1 hR2 hBW1 hBW2 hcap1 hcap2 hsz1 hsz2
      go_wp2_with fail
      go_loopg [58] (s1.size + 1) (fun g q wr2 => ∃ (i : Nat), i + g = s1.size + 1 ∧ W1 = wr2 ∧ q = .int .i64 (i : Int) ∧ i ≤ s1.size ∧ Hid (∀ c ∈ nm.take i, ltr c = true))
      case atStart => exact ⟨0, by omega, rfl, rfl, by omega, Lib.hid (by simp)⟩
      case round =>
        obtain ⟨i, hig, hw2, rfl, hi7, HL1⟩ := hrel
        subst hw2
        by_cases hil : i < s1.size
        · have hin : i < nm.length := by have := HZ1.out; omega
          have c1 := HR1.out.cell hin
          have hj0 : (0 : Int) ≤ (i : Int) := by omega
          have hj3 : (i : Int) < (s1.size : Int) := by omega
          obtain ⟨c, hc⟩ : ∃ c, nm[i] = c := ⟨_, rfl⟩
          rw [hc] at c1
          by_cases h97 : (c.toNat : Int) < 97
          · have dx : decide ((c.toNat : Int) < 97) = true := by simpa using h97
            clear h97 hc
            go_wp2_with (go_at_call 7; refine (HW.out _ (below_call HBW.out HBW1.out)).mono ?_; rintro _ w1 ⟨rfl, hb1⟩; clear HW)
            try rw [Exit.noGoto_ret]
            go_ret
            exact ⟨rfl, below_call (below_call HBW.out HBW1.out) hb1⟩
          have dx : decide ((c.toNat : Int) < 97) = false := by simpa using h97
          by_cases h122 : 122 < (c.toNat : Int)
          · have dy : decide (122 < (c.toNat : Int)) = true := by simpa using h122
            clear h97 h122 hc
            go_wp2_with (go_at_call 7; refine (HW.out _ (below_call HBW.out HBW1.out)).mono ?_; rintro _ w1 ⟨rfl, hb1⟩; clear HW)
            try rw [Exit.noGoto_ret]
            go_ret
            exact ⟨rfl, below_call (below_call HBW.out HBW1.out) hb1⟩
          have dy : decide (122 < (c.toNat : Int)) = false := by simpa using h122
          have HL2 : Hid (∀ c ∈ nm.take (i + 1), ltr c = true) := Lib.hid fun d hd => by
            rw [List.take_add_one, List.getElem?_eq_getElem hin, hc] at hd
            rcases List.mem_append.1 hd with hd | hd
            · exact HL1.out d hd
            · have : d = c := by simpa using hd
              subst this
              rw [ltr_int]; simp; omega
          clear h97 h122 hc
          go_wp2_with fail
          go_roundg (gk - 1)
          case measure => omega
          case rel => exact ⟨i + 1, by omega, rfl, by go_num, by omega, HL2⟩
        · have HLT : Hid (∀ c ∈ nm, ltr c = true) := Lib.hid (by
            have := HL1.out
            rwa [List.take_of_length_le (by have := HZ1.out; omega)] at this)
          have hni : ¬ (i : Int) < (s1.size : Int) := by omega
          clear HL1
          go_wp2_with fail
          go_loopg [76] (s2.size + 1) (fun g q wr3 => ∃ (j : Nat), j + g = s2.size + 1 ∧ W2 = wr3 ∧ q = .int .i64 (j : Int) ∧ j ≤ s2.size ∧ Hid (34 ∉ vl.take j ∧ 63 ∉ vl.take j))
          case atStart => exact ⟨0, by omega, rfl, rfl, by omega, Lib.hid (by simp)⟩
          case round =>
            obtain ⟨j, hjg, hw3, rfl, hj7, HL1⟩ := hrel
            subst hw3
            by_cases hjl : j < s2.size
            · have hjn : j < vl.length := by have := HZ2.out; omega
              have c2 := HR2.out.cell hjn
              have hj0 : (0 : Int) ≤ (j : Int) := by omega
              have hj3 : (j : Int) < (s2.size : Int) := by omega
              obtain ⟨c, hc⟩ : ∃ c, vl[j] = c := ⟨_, rfl⟩
              rw [hc] at c2
              by_cases h34 : c = 34
              · have dx : ((c.toNat : Int) == 34) = true := by rw [h34]; decide
                clear h34 hc
                go_wp2_with (go_at_call 7; refine (HW.out _ (HBt.out)).mono ?_; rintro _ w1 ⟨rfl, hb1⟩; clear HW)
                try rw [Exit.noGoto_ret]
                go_ret
                exact ⟨rfl, below_call HBt.out hb1⟩
              have dx : ((c.toNat : Int) == 34) = false := by
                have : ¬ (c.toNat : Int) = 34 := fun h => h34 (u8_lit.1 h)
                simpa using this
              by_cases h63 : c = 63
              · have dy : ((c.toNat : Int) == 63) = true := by rw [h63]; decide
                clear h34 h63 hc
                go_wp2_with (go_at_call 7; refine (HW.out _ (HBt.out)).mono ?_; rintro _ w1 ⟨rfl, hb1⟩; clear HW)
                try rw [Exit.noGoto_ret]
                go_ret
                exact ⟨rfl, below_call HBt.out hb1⟩
              have dy : ((c.toNat : Int) == 63) = false := by
                have : ¬ (c.toNat : Int) = 63 := fun h => h63 (u8_lit.1 h)
                simpa using this
              have HL2 : Hid (34 ∉ vl.take (j + 1) ∧ 63 ∉ vl.take (j + 1)) := Lib.hid (by
                rw [List.take_add_one, List.getElem?_eq_getElem hjn, hc]
                refine ⟨fun hd => ?_, fun hd => ?_⟩
                · rcases List.mem_append.1 hd with hd | hd
                  · exact HL1.out.1 hd
                  · exact h34 (by simpa using hd : (34 : UInt8) = c).symm
                · rcases List.mem_append.1 hd with hd | hd
                  · exact HL1.out.2 hd
                  · exact h63 (by simpa using hd : (63 : UInt8) = c).symm)
              clear h34 h63 hc
              go_wp2_with fail
              go_roundg (gk - 1)
              case measure => omega
              case rel => exact ⟨j + 1, by omega, rfl, by go_num, by omega, HL2⟩
            · have HQT : Hid (34 ∉ vl ∧ 63 ∉ vl) := Lib.hid (by
                have := HL1.out
                rwa [List.take_of_length_le (by have := HZ2.out; omega)] at this)
              have hnj : ¬ (j : Int) < (s2.size : Int) := by omega
              have HF2 : Hid (Fits P (k + 1)) := Lib.hid (HF.out.step hkp (by rw [HPk.out]; exact ⟨HA0.out, HLT.out, HQT.out.1, HQT.out.2⟩) (by rw [HPk.out]; show nm.length ≤ 20; have := HZ1.out; omega) (by rw [HPk.out]; show vl.length ≤ 20; have := HZ2.out; omega))
              have HB2 : Hid (B ++ (((((⟨#[32]⟩ : ByteArray) ++ s1) ++ ⟨#[61, 34]⟩) ++ s2) ++ ⟨#[34]⟩) = str (frontX ++ mk (P.take (k + 1)))) := Lib.hid (by
                rw [HBs.out, ← HS1.out, ← HS2.out, mk_snoc hkp, HPk.out, ← List.append_assoc]
                exact cat_mk _ _ _)
              have HCP : Hid (cellsP (P.take k) ++ [.string s1, .string s2] = cellsP (P.take (k + 1))) := Lib.hid (by
                rw [List.take_add_one, List.getElem?_eq_getElem hkp, cellsP_app, HPk.out, ← HS1.out, ← HS2.out]; rfl)
              have hk63 : k + 1 ≤ 200000 := by omega
              have hszw := HSZ2.out
              clear HL1
              go_wp2_with (first
                | (at_builtin; refine wpList_append_lies _ rfl _ _ _ rfl w.heap.size 38 i0 _ 2 32 Tryd.underlying32 hi hz0 hz1 hz2 rfl (by omega) vw k (cellsP (P.take k)) rfl (World.ownsRow.alloc HO2.out _) ⟨W2.heap.size, 0, none⟩ 1 1 [.string s1, .string s2] rfl rfl (World.news_of_block (t := 38) (fr := (0, 0)) (heap_alloc_new W2 _)) (by simp [Value.oneCell']) (by omega) (by unfold maxLen; omega) (by omega) (by simp; omega) (W2.heap.size + 1) (by simp) ?_; intro g3 cap3 w3 hown3 hgrow3 hat3 hlt3
                   have H := Lib.hid (appS hszw HO2.out hgrow3)
                   have HO3 := Lib.hid hown3
                   clear hown3 hgrow3 hat3 hlt3))
              go_roundg (N - k)
              case measure => omega
              case rel =>
                refine ⟨k + 1, _, _, by omega, by go_num, by omega, rfl, rfl, ?_, HB2, HF2, Lib.hid (by rw [← HCP.out]; exact HO3.out), Lib.hid (HBt.out.trans H.out)⟩
                rw [HB2.out, str_size, List.length_append]
                have := HF2.out.2
                have h3 : frontX.length = 5 := rfl
                omega
    · have hkN : k = N := by omega
      subst hkN
      have hPt : P.take k = P := List.take_of_length_le (by rw [HPL.out, HNh.out]; exact Nat.le_refl _)
      rw [hPt] at HBs HO
      have HPR : Hid (prts (frontX ++ (if P = [] then [32] else mk P) ++ 63 :: 62 :: bh) = P) := Lib.hid (prts_made bh (by have := HF.out.1; rwa [hPt] at this) (by have := HF.out.2; rw [hPt] at this; omega))
      have HPA : Hid (∀ (T : ByteArray) (w' : World), T = str (frontX ++ (if P = [] then [32] else mk P) ++ 63 :: 62 :: bh) → Below w.heap.size w w' → Calls Tryd.prog 17 #[.string T] w' fun e w'' => ∃ u, e = .returned u ∧ Prs w'' u P ∧ Below w'.heap.size w' w'') := Lib.hid fun T w' h hb => by
        subst h
        have := pparts_any (frontX ++ (if P = [] then [32] else mk P) ++ 63 :: 62 :: bh) w' (HMX.out _ hb) (by
          have h1 : (if P = [] then [32] else mk P).length ≤ 200 := by
            split
            · decide
            · have := HF.out.2; rw [hPt] at this; omega
          have h2 := HTZ.out
          rw [List.length_append, List.length_append, List.length_cons, List.length_cons]
          unfold maxLen
          have h3 : frontX.length = 5 := rfl
          omega)
        unfold PartsR at this
        rwa [HPR.out] at this
      have hk3 : ¬ (k : Int) < (k : Int) := by omega
      have HPRS : Hid (Prs wr vw P) := Lib.hid (prs_own (by have := HO.out; rwa [← HNh.out, ← HPL.out] at this))
      have HSM : Hid (∀ (u u' : Value) (w : World), Prs w u P → Prs w u' P → Calls Tryd.prog 16 #[u, u'] w fun e w' => e = .returned (.bool true) ∧ Below w.heap.size w w') := Lib.hid fun u u' w h h' => by
        have := rsame_any P P u u' w h h' (by rw [HPL.out, HNh.out]; unfold maxLen; omega) (by rw [HPL.out, HNh.out]; unfold maxLen; omega)
        simpa using this
      by_cases h0 : k = 0
      · have hPe : P = [] := List.eq_nil_of_length_eq_zero (by rw [HPL.out, HNh.out, h0])
        have HT : Hid (((B ++ (⟨#[32]⟩ : ByteArray)) ++ (⟨#[63, 62]⟩ : ByteArray)) ++ t = str (frontX ++ (if P = [] then [32] else mk P) ++ 63 :: 62 :: bh)) := Lib.hid (by
          rw [HBs.out, ← HTT.out, cat_sp, cat_end, if_pos hPe, hPe]; simp [mk])
        have dz : ((k : Int) == 0) = true := by rw [h0]; rfl
        clear hPt h0 hPe
        go_wp2_with (first
          | (go_at_call 17; refine (HPA.out _ _ HT.out HBW.out).mono ?_; rintro _ w1 ⟨u1, rfl, hp1, hb1⟩; clear HPA)
          | (go_at_call 16; refine (HSM.out _ _ _ hp1 (HPRS.out.below hb1)).mono ?_; rintro _ w2 ⟨rfl, hb2⟩; clear HSM)
          | (go_at_call 7; refine (HW.out _ (below_call (below_call HBW.out hb1) hb2)).mono ?_; rintro _ w3 ⟨rfl, hb3⟩; clear HW))
        go_ret
        exact ⟨rfl, below_call (below_call (below_call HBW.out hb1) hb2) hb3⟩
      · have hPe : ¬ P = [] := fun h => h0 (by have := HPL.out; rw [h, HNh.out] at this; simpa using this.symm)
        have HT : Hid ((B ++ (⟨#[63, 62]⟩ : ByteArray)) ++ t = str (frontX ++ (if P = [] then [32] else mk P) ++ 63 :: 62 :: bh)) := Lib.hid (by
          rw [HBs.out, ← HTT.out, cat_end, if_neg hPe])
        have dz : ((k : Int) == 0) = false := by simp; omega
        clear hPt h0 hPe
        go_wp2_with (first
          | (go_at_call 17; refine (HPA.out _ _ HT.out HBW.out).mono ?_; rintro _ w1 ⟨u1, rfl, hp1, hb1⟩; clear HPA)
          | (go_at_call 16; refine (HSM.out _ _ _ hp1 (HPRS.out.below hb1)).mono ?_; rintro _ w2 ⟨rfl, hb2⟩; clear HSM)
          | (go_at_call 7; refine (HW.out _ (below_call (below_call HBW.out hb1) hb2)).mono ?_; rintro _ w3 ⟨rfl, hb3⟩; clear HW))
        go_ret
        exact ⟨rfl, below_call (below_call (below_call HBW.out hb1) hb2) hb3⟩
end Go.Proofs.YtdkfbikpadehdaaDoor.Dec
