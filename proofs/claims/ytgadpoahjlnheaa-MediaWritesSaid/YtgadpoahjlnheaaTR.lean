/- The contract of the document's own Text. -/
import Derived.Test.YtgadpoahjlnheaaYE
import Derived.Test.YtgadpoahjlnheaaPM
namespace Go.Proofs.Ytgadpoahjlnheaa.Med
open Go.RowKit
set_option linter.unusedVariables false
set_option linter.unusedSimpArgs false
open Lab (RetS ret_str str str_size str_list str_eta str_inj u8v st_ixb info5 info_parts)
theorem typ_idx {t : List UInt8} {k : Nat} (hk : endW sgn t 0 = k) : typ t = ((t.drop k).head? == some 47 && nam (t.take k) && nam (t.drop (k + 1))) := by
  have h1 := drop_end sgn t 0
  have h2 := slice_end sgn t 0
  rw [List.drop_zero, hk] at h1 h2
  rw [Nat.sub_zero] at h2
  unfold typ
  rw [← h1, ← h2, List.tail_drop]
theorem parOk_no {nm vv : List UInt8} (h : tok vv = false) : parOk (nm, vv) = (nam nm && vv.all mean) := by unfold parOk; simp only; rw [h, Bool.false_or]
theorem parOk_tok {nm vv : List UInt8} (h : tok vv = true) : parOk (nm, vv) = nam nm := by unfold parOk; simp only; rw [h, Bool.true_or, Bool.and_true]
theorem tok_idx (v : List UInt8) : tok v = (!v.isEmpty && decide (endW sgn v 0 = v.length)) := by
  unfold tok
  congr 1
  rw [Bool.eq_iff_iff, decide_eq_true_eq]
  exact (endW_all sgn v).symm
theorem name_w (l : List UInt8) (w : World) (hs : l.length ≤ 100000) : Calls Try.prog 32 #[.string (str l)] w fun e w' => e = .returned (.bool (nam l)) ∧ Below w.heap.size w w' := name_any l w (by omega)
theorem str_app (a b : List UInt8) : str a ++ str b = str (a ++ b) := by
  apply ByteArray.ext; simp [str]
theorem cat4 (a nm : List UInt8) : str a ++ (⟨#[59, 32]⟩ : ByteArray) ++ str nm ++ ⟨#[61]⟩ = str (a ++ 59 :: 32 :: (nm ++ [61])) := by
  apply ByteArray.ext; simp [str]
theorem cat34 (a : List UInt8) : str a ++ (⟨#[34]⟩ : ByteArray) = str (a ++ [34]) := by
  apply ByteArray.ext; simp [str]
theorem cat34e (a b : List UInt8) : str (a ++ 34 :: b) ++ (⟨#[34]⟩ : ByteArray) = str (a ++ 34 :: (b ++ [34])) := by
  apply ByteArray.ext; simp [str]
theorem cat92 (a b : List UInt8) (c : UInt8) : str (a ++ 34 :: b) ++ (⟨#[92]⟩ : ByteArray) ++ str [c] = str (a ++ 34 :: (b ++ [92, c])) := by
  apply ByteArray.ext; simp [str]
theorem cat1 (a b : List UInt8) (c : UInt8) : str (a ++ 34 :: b) ++ str [c] = str (a ++ 34 :: (b ++ [c])) := by
  apply ByteArray.ext; simp [str]
set_option maxRecDepth 100000 in
set_option maxHeartbeats 8000000 in
theorem rtext_any (m : Med) (u : Value) (w : World) (hu : Prs w u m.2) (hl : tot m ≤ 3000) (hc : m.2.length ≤ 3000) : Calls Try.prog 19 #[.agg #[.string (str m.1), u]] w fun e w' => TextE m w e w' := by
  obtain ⟨p, cap, rfl⟩ := hu.form
  obtain ⟨t, ps⟩ := m
  have HPRE : Hid (∀ k, (t ++ wpars (ps.take k)).length ≤ 21000) := Lib.hid fun k => by
    have := pre_len (t, ps) k
    simp only at this hc
    omega
  have ht : t.length ≤ 3000 := by unfold tot at hl; simp only at hl; omega
  simp only at hc
  have HSM : Hid (∀ k (h : k < ps.length), ps[k].1.length ≤ 3000 ∧ ps[k].2.length ≤ 3000) := Lib.hid (by
    intro k h
    have := sum_mem h
    unfold tot at hl; simp only at hl; omega)
  have HB0 : Hid (Below w.heap.size w (w.alloc (.cells #[.string (str t), .slice p ps.length cap] 25))) := Lib.hid ((Below.refl _ w).alloc (Nat.le_refl _) _)
  have HU := Lib.hid (hu.below HB0.out)
  have HK := Lib.hid (Blk.new w #[.string (str t), .slice p ps.length cap] 25)
  have hk1 := endW_le (p := sgn) (Nat.zero_le t.length)
  have HT24 : Hid (∀ w, Calls Try.prog 24 #[.string (str t), .int .i64 0] w fun e w' => e = .returned (.int .i64 (endW sgn t 0 : Int)) ∧ w' = w) := Lib.hid fun w => token_str t 0 w (by unfold maxLen; omega) (Nat.zero_le _)
  obtain ⟨k0, hk0⟩ : ∃ k, endW sgn t 0 = k := ⟨_, rfl⟩
  have HTY := Lib.hid (typ_idx hk0)
  rw [hk0] at hk1 HT24
  have HOK : Hid (ok (t, ps) = (typ t && ps.all parOk)) := Lib.hid rfl
  have hst := str_size t
  have HTL := Lib.hid (str_list t)
  clear hu hl hk0
  by_cases h1 : k0 < t.length
  · have d1 : decide ((t.length : Int) ≤ (k0 : Int)) = false := by simp; omega
    have d1n : decide (t.length ≤ k0) = false := by simp; omega
    have hk0' : (0 : Int) ≤ (k0 : Int) := by omega
    have hk3' : (k0 : Int) < ((str t).size : Int) := by rw [hst]; omega
    have hk3n : k0 < (str t).size := by rw [hst]; exact h1
    have hhd : (t.drop k0).head? = some (str t)[k0] := by
      rw [head_at h1]; rfl
    obtain ⟨c, hcc⟩ : ∃ c, (str t)[k0] = c := ⟨_, rfl⟩
    rw [hcc] at hhd
    by_cases h47 : c = 47
    · have d2 : ((c.toNat : Int) != 47) = false := by subst h47; decide
      have HTY2 : Hid (typ t = (nam (t.take k0) && nam (t.drop (k0 + 1)))) := Lib.hid (by rw [HTY.out, hhd, h47]; simp)
      have hsl1 : ∀ w0 : World, (Instr.slice 9 (.string (str t)) none (some (.int .i64 (k0 : Int))) none).run Try.prog w0 = .ok (.string (str (t.take k0))) w0 := fun w0 => slice_to (str t) k0 (by rw [str_size]; omega) (str_list t) rfl w0
      have hsl2 : ∀ w0 : World, (Instr.slice 9 (.string (str t)) (some (.int .i64 ((k0 : Int) + 1))) none none).run Try.prog w0 = .ok (.string (str (t.drop (k0 + 1)))) w0 := fun w0 => slice_from (str t) (k0 + 1) (by rw [str_size]; omega) (str_list t) rfl w0
      obtain ⟨ta, hta⟩ : ∃ ta, t.take k0 = ta := ⟨_, rfl⟩
      obtain ⟨tb, htb⟩ : ∃ tb, t.drop (k0 + 1) = tb := ⟨_, rfl⟩
      have HN1 : Hid (∀ w, Calls Try.prog 32 #[.string (str ta)] w fun e w' => e = .returned (.bool (nam ta)) ∧ Below w.heap.size w w') := Lib.hid fun w => name_w ta w (by rw [← hta, List.length_take]; omega)
      have HN2 : Hid (∀ w, Calls Try.prog 32 #[.string (str tb)] w fun e w' => e = .returned (.bool (nam tb)) ∧ Below w.heap.size w w') := Lib.hid fun w => name_w tb w (by rw [← htb, List.length_drop]; omega)
      rw [hta] at hsl1 HTY2
      rw [htb] at hsl2 HTY2
      obtain ⟨b1, hb1⟩ : ∃ b, nam ta = b := ⟨_, rfl⟩
      obtain ⟨b2, hb2⟩ : ∃ b, nam tb = b := ⟨_, rfl⟩
      rw [hb1] at HN1 HTY2
      rw [hb2] at HN2 HTY2
      obtain ⟨sa, hsa⟩ : ∃ sa, str ta = sa := ⟨_, rfl⟩
      obtain ⟨sb, hsb⟩ : ∃ sb, str tb = sb := ⟨_, rfl⟩
      rw [hsa] at hsl1 HN1
      rw [hsb] at hsl2 HN2
      clear hta htb hb1 hb2 hsa hsb h47 hhd HTY
      cases b1 with
      | false =>
        have HF : Hid (ok (t, ps) = false) := Lib.hid (by rw [HOK.out, HTY2.out]; rfl)
        go_enter Try.func19, Try.ntmps19
        go_wp2_with (first
          | (go_at_call 24; refine (HT24.out _).mono ?_; rintro _ w9 ⟨rfl, hw9⟩; subst w9; clear HT24)
          | (go_at_call 32; refine (HN1.out _).mono ?_; rintro _ w1 ⟨rfl, hb1⟩; clear HN1))
        go_ret2
        exact text_bad HF.out (below_call HB0.out hb1)
      | true =>
        cases b2 with
        | false =>
          have HF : Hid (ok (t, ps) = false) := Lib.hid (by rw [HOK.out, HTY2.out]; rfl)
          go_enter Try.func19, Try.ntmps19
          go_wp2_with (first
            | (go_at_call 24; refine (HT24.out _).mono ?_; rintro _ w9 ⟨rfl, hw9⟩; subst w9; clear HT24)
            | (go_at_call 32; refine (HN1.out _).mono ?_; rintro _ w1 ⟨rfl, hb1⟩; clear HN1
               obtain ⟨e0, e1, _, _⟩ := blk2 (HK.out.below hb1))
            | (go_at_call 32; refine (HN2.out _).mono ?_; rintro _ w2 ⟨rfl, hb2⟩; clear HN2))
          go_ret2
          exact text_bad HF.out (below_call (below_call HB0.out hb1) hb2)
        | true =>
          have HOK2 : Hid (ok (t, ps) = ps.all parOk) := Lib.hid (by rw [HOK.out, HTY2.out]; rfl)
          clear HOK HTY2
          go_enter Try.func19, Try.ntmps19
          go_wp2_with (first
            | (go_at_call 24; refine (HT24.out _).mono ?_; rintro _ w9 ⟨rfl, hw9⟩; subst w9; clear HT24)
            | (go_at_call 32; refine (HN1.out _).mono ?_; rintro _ w1 ⟨rfl, hb1⟩; clear HN1
               obtain ⟨e0, e1, _, _⟩ := blk2 (HK.out.below hb1))
            | (go_at_call 32; refine (HN2.out _).mono ?_; rintro _ w2 ⟨rfl, hb2⟩; clear HN2
               obtain ⟨f0, f1, _, _⟩ := blk2 ((HK.out.below hb1).below hb2)))
          have B2 := Lib.hid (below_call (below_call HB0.out hb1) hb2)
          have HKs := Lib.hid ((HK.out.below hb1).below hb2)
          have HU2 := Lib.hid ((HU.out.below hb1).below hb2)
          clear hb1 hb2 e0 e1 f0 f1
          go_loopg [5, 6] (ps.length + 1) (fun g q5 q6 wr => ∃ (k : Nat) (y : ByteArray), k + g = ps.length + 1 ∧ q5 = .string y ∧ q6 = .int .i64 (k : Int) ∧ k ≤ ps.length ∧ y.size ≤ 21000 ∧ Hid (y = str (t ++ wpars (ps.take k))) ∧ Hid ((ps.take k).all parOk = true) ∧ Hid (Below w2.heap.size w2 wr))
          case atStart => exact ⟨0, str t, by omega, rfl, rfl, by omega, by rw [hst]; omega, Lib.hid (by simp [wpars]), Lib.hid rfl, Lib.hid (Below.refl _ _)⟩
          case round =>
            obtain ⟨k, y, hkg, rfl, rfl, hk7, hys, HY, HAL2, HW⟩ := hrel
            obtain ⟨_, f1, _, _⟩ := blk2 (HKs.out.below HW.out)
            have HQ := Lib.hid (HU2.out.below HW.out)
            by_cases hlt : k < ps.length
            · obtain ⟨b, off, rfl, hbl, x1, x2⟩ := (HQ.out.at).2 k hlt
              have hk0 : (0 : Int) ≤ (k : Int) := by omega
              have hk3 : (k : Int) < (ps.length : Int) := by omega
              have HTK := Lib.hid (ptake hlt)
              have HSK := Lib.hid (HSM.out k hlt)
              have HFB : Hid (parOk ps[k] = false → ok (t, ps) = false) := Lib.hid (fun h => by
                rw [HOK2.out]
                cases hx : ps.all parOk with
                | false => rfl
                | true =>
                  rw [List.all_eq_true] at hx
                  have := hx ps[k] (List.getElem_mem hlt)
                  rw [h] at this; cases this)
              obtain ⟨⟨nm, vv⟩, hpk⟩ : ∃ q, ps[k] = q := ⟨_, rfl⟩
              rw [hpk] at HTK HSK HFB x1 x2
              simp only at HTK HSK x1 x2
              have HNC : Hid (∀ w, Calls Try.prog 32 #[.string (str nm)] w fun e w' => e = .returned (.bool (nam nm)) ∧ Below w.heap.size w w') := Lib.hid fun w => name_w nm w (by have := HSK.out.1; omega)
              have HTC : Hid (∀ w, Calls Try.prog 24 #[.string (str vv), .int .i64 0] w fun e w' => e = .returned (.int .i64 (endW sgn vv 0 : Int)) ∧ w' = w) := Lib.hid fun w => token_str vv 0 w (by have := HSK.out.2; unfold maxLen; omega) (Nat.zero_le _)
              have HTI := Lib.hid (tok_idx vv)
              have hvt := toList_str vv
              obtain ⟨ev, hev⟩ : ∃ ev, endW sgn vv 0 = ev := ⟨_, rfl⟩
              rw [hev] at HTC HTI
              obtain ⟨NM, hNM⟩ : ∃ NM, str nm = NM := ⟨_, rfl⟩
              obtain ⟨VV, hVV⟩ : ∃ VV, str vv = VV := ⟨_, rfl⟩
              have HNM := Lib.hid hNM
              have HVV := Lib.hid hVV
              have hNs : NM.size ≤ 3000 := by rw [← hNM, str_size]; exact HSK.out.1
              have hVs : VV.size ≤ 3000 := by rw [← hVV, str_size]; exact HSK.out.2
              have HVS : Hid (VV.size = vv.length) := Lib.hid (by rw [← hVV, str_size])
              have HVL : Hid (VV.data.toList = vv) := Lib.hid (by rw [← hVV, str_list])
              rw [hNM] at HNC x1
              rw [hVV] at HTC x2 hvt
              have Pw := Lib.hid (Blk.new wr #[.string NM, .string VV] 48)
              have HWA : Hid (Below w2.heap.size w2 (wr.alloc (.cells #[.string NM, .string VV] 48))) := Lib.hid (HW.out.alloc HW.out.size _)
              obtain ⟨A, hA⟩ : ∃ A, t ++ wpars (ps.take k) ++ 59 :: 32 :: (nm ++ [61]) = A := ⟨_, rfl⟩
              have HA := Lib.hid hA
              have HAL : Hid (A.length ≤ 25000) := Lib.hid (by
                have h1 := HPRE.out k
                have h2 := HSK.out.1
                rw [← hA, List.length_append]; simp at h1 ⊢; omega)
              obtain ⟨bn, hbn⟩ : ∃ b, nam nm = b := ⟨_, rfl⟩
              obtain ⟨bt, hbt⟩ : ∃ b, tok vv = b := ⟨_, rfl⟩
              rw [hbn] at HNC
              cases bn with
              | false =>
                have HF := Lib.hid (HFB.out (by unfold parOk; simp only; rw [hbn]; rfl))
                clear hbn hbt hev hNM hVV hpk hA hvt
                go_wp2_with (go_at_call 32; refine (HNC.out _).mono ?_; rintro _ w3 ⟨rfl, hb3⟩; clear HNC)
                go_ret2
                exact text_bad HF.out (below_call B2.out (below_call HWA.out hb3))
              | true =>
                cases bt with
                | true =>
                  have HPT : Hid (parOk (nm, vv) = true) := Lib.hid (by rw [parOk_tok hbt, hbn])
                  rw [hbt] at HTI
                  have hti := HTI.out
                  have hemp : vv.isEmpty = false := by
                    cases hx : vv.isEmpty with
                    | false => rfl
                    | true => rw [hx] at hti; cases hti
                  have hevl : ev = vv.length := by
                    rw [hemp] at hti
                    have : decide (ev = vv.length) = true := by simpa using hti.symm
                    exact of_decide_eq_true this
                  have he1 : VV.toList.isEmpty = false := by rw [hvt]; exact hemp
                  have he2 : ((ev : Int) == (VV.size : Int)) = true := by rw [hevl, HVS.out]; simp
                  have HY2 : Hid (y ++ ⟨#[59, 32]⟩ ++ NM ++ ⟨#[61]⟩ ++ VV = str (t ++ wpars (ps.take (k + 1)))) := Lib.hid (by
                    rw [HY.out, ← hNM, ← hVV, cat4, str_app, HTK.out, wpars_snoc]
                    unfold wpar wval
                    simp only
                    rw [if_pos hbt]
                    simp)
                  have hys2 : (y ++ ⟨#[59, 32]⟩ ++ NM ++ ⟨#[61]⟩ ++ VV).size ≤ 21000 := by rw [HY2.out, str_size]; exact HPRE.out (k + 1)
                  have HA3 : Hid ((ps.take (k + 1)).all parOk = true) := Lib.hid (by rw [HTK.out, List.all_append, HAL2.out]; simp [HPT.out])
                  clear hbn hbt hev hNM hVV hpk hA hvt hti hemp hevl HTI
                  go_wp2_with (go_at_call 32; refine (HNC.out _).mono ?_; rintro _ w3 ⟨rfl, hb3⟩; clear HNC
                               obtain ⟨x0, x1', _, _⟩ := blk2 (Pw.out.below hb3))
                  go_quiet ((go_at_call 24; refine Calls.quiet_of_same (HTC.out _)))
                  go_wp2_with fail
                  go_roundg (ps.length + 1 - (k + 1))
                  case measure => omega
                  case rel => exact ⟨k + 1, _, by omega, rfl, by go_num, by omega, hys2, HY2, HA3, Lib.hid (below_draws (below_call HWA.out hb3) _)⟩
                | false =>
                  have HPO : Hid (parOk (nm, vv) = vv.all mean) := Lib.hid (by rw [parOk_no hbt, hbn]; rfl)
                  have HTO : Hid ((if tok vv = true then vv else 34 :: (quo vv ++ [34])) = 34 :: (quo vv ++ [34])) := Lib.hid (by rw [hbt]; rfl)
                  rw [hbt] at HTI
                  have hti := HTI.out
                  by_cases hemp : vv.isEmpty = true
                  · have he1 : VV.toList.isEmpty = true := by rw [hvt]; exact hemp
                    clear hbn hbt hev hNM hVV hpk hA hvt hti hemp HTI
                    go_wp2_with (go_at_call 32; refine (HNC.out _).mono ?_; rintro _ w3 ⟨rfl, hb3⟩; clear HNC
                                 obtain ⟨x0, x1', _, _⟩ := blk2 (Pw.out.below hb3))
                    go_quiet (fail)
                    go_wp2_with fail
                    have HIA : Hid (y ++ ⟨#[59, 32]⟩ ++ NM ++ ⟨#[61]⟩ ++ ⟨#[34]⟩ = str (A ++ 34 :: quo (vv.take 0))) := Lib.hid (by rw [HY.out, ← HNM.out, cat4, HA.out, cat34]; rfl)
                    obtain ⟨z0, hz0⟩ : ∃ z0, y ++ ⟨#[59, 32]⟩ ++ NM ++ ⟨#[61]⟩ ++ ⟨#[34]⟩ = z0 := ⟨_, rfl⟩
                    have hz0s : z0.size ≤ 60000 := by rw [← hz0]; simp only [ByteArray.size_append]; have e1 : (⟨#[59, 32]⟩ : ByteArray).size = 2 := rfl; have e2 : (⟨#[61]⟩ : ByteArray).size = 1 := rfl; have e3 : (⟨#[34]⟩ : ByteArray).size = 1 := rfl; omega
                    rw [hz0] at HIA ⊢
                    clear hz0
                    obtain ⟨W3, hW3⟩ : ∃ W3, w3.drewN nq = W3 := ⟨_, rfl⟩
                    rw [hW3]
                    have P3 := Lib.hid ((Pw.out.below hb3).drewN nq)
                    rw [hW3] at P3
                    have HB3 : Hid (Below w2.heap.size w2 W3) := Lib.hid (by rw [← hW3]; exact below_draws (below_call HWA.out hb3) _)
                    obtain ⟨g0, g1, _, _⟩ := blk2 P3.out
                    clear hW3 x0 x1' hb3
                    go_loopg [5, 8] (VV.size + 1) (fun g q5 q8 wi => ∃ (j : Nat) (z : ByteArray), j + g = VV.size + 1 ∧ W3 = wi ∧ q5 = .string z ∧ q8 = .int .i64 (j : Int) ∧ j ≤ VV.size ∧ z.size ≤ 60000 ∧ Hid (z = str (A ++ 34 :: quo (vv.take j))) ∧ Hid ((vv.take j).all mean = true))
                    case atStart => exact ⟨0, z0, by omega, rfl, rfl, rfl, by omega, hz0s, HIA, Lib.hid rfl⟩
                    case round =>
                      obtain ⟨j, z, hjg, hw3, rfl, rfl, hj7, hzs, HZ, HME⟩ := hrel
                      subst hw3
                      by_cases hjlt : j < VV.size
                      · have hjl : j < vv.length := by have := HVS.out; omega
                        have hj0 : (0 : Int) ≤ (j : Int) := by omega
                        have hj3 : (j : Int) < (VV.size : Int) := by omega
                        have hel : vv[j] = VV[j] := by
                          have e := HVL.out
                          subst e
                          rfl
                        have hsl : ∀ w0 : World, (Instr.slice 9 (.string VV) (some (.int .i64 (j : Int))) (some (.int .i64 ((j : Int) + 1))) none).run Try.prog w0 = .ok (.string (str [VV[j]])) w0 := fun w0 => slice_law VV j (j + 1) (by omega) (by omega) HVL.out (by rw [List.drop_eq_getElem_cons hjl, Nat.add_sub_cancel_left, hel]; rfl) w0
                        have HQS := Lib.hid (quo_snoc (vv.take j) vv[j])
                        have HMS : Hid ((vv.take (j + 1)).all mean = ((vv.take j).all mean && mean vv[j])) := Lib.hid (by rw [take_snoc hjl, List.all_append]; simp)
                        rw [← take_snoc hjl, hel] at HQS
                        rw [hel] at HMS
                        have HWI : Hid (∀ w, Calls Try.prog 33 #[.int .u8 (VV[j].toNat : Int)] w fun e w' => e = .returned (.bool (wth VV[j])) ∧ w' = w) := Lib.hid fun w => within_any VV[j] w
                        have HLB : Hid ((A ++ 34 :: quo (vv.take (j + 1))).length ≤ 60000) := Lib.hid (by
                          have := quo_len (vv.take (j + 1))
                          have h2 : (vv.take (j + 1)).length ≤ vv.length := by rw [List.length_take]; omega
                          have h3 := HAL.out
                          have h4 := HSK.out.2
                          rw [List.length_append, List.length_cons]; omega)
                        have HALLM : Hid (mean VV[j] = false → parOk (nm, vv) = false) := Lib.hid (fun h => by
                          rw [HPO.out]
                          have : vv.all mean = false := by
                            cases hx : vv.all mean with
                            | false => rfl
                            | true =>
                              rw [List.all_eq_true] at hx
                              have := hx vv[j] (List.getElem_mem hjl)
                              rw [hel, h] at this; cases this
                          exact this)
                        obtain ⟨c, hcc⟩ : ∃ c, VV[j] = c := ⟨_, rfl⟩
                        have hs1 : (str [c]).size ≤ 1 := by rw [str_size]; exact Nat.le_refl _
                        rw [hcc] at HQS HMS HWI HALLM hsl
                        clear hjl hel
                        by_cases h34 : c = 34
                        · have d1 : ((c.toNat : Int) == 34) = true := by subst h34; decide
                          have HZ2 : Hid (z ++ ⟨#[92]⟩ ++ str [c] = str (A ++ 34 :: quo (vv.take (j + 1)))) := Lib.hid (by rw [HZ.out, HQS.out, if_pos (.inl h34)]; exact cat92 _ _ _)
                          have hzs2 : (z ++ ⟨#[92]⟩ ++ str [c]).size ≤ 60000 := by rw [HZ2.out, str_size]; exact HLB.out
                          have HME2 : Hid ((vv.take (j + 1)).all mean = true) := Lib.hid (by rw [HMS.out, HME.out, h34]; decide)
                          clear h34
                          go_wp2_with fail
                          go_roundg (VV.size + 1 - (j + 1))
                          case measure => omega
                          case rel => exact ⟨j + 1, _, by omega, rfl, rfl, by go_num, by omega, hzs2, HZ2, HME2⟩
                        have d1 : ((c.toNat : Int) == 34) = false := by
                          have : ¬ (c.toNat : Int) = 34 := fun h => h34 (u8_lit.1 h)
                          simpa using this
                        by_cases h92 : c = 92
                        · have d2 : ((c.toNat : Int) == 92) = true := by subst h92; decide
                          have HZ2 : Hid (z ++ ⟨#[92]⟩ ++ str [c] = str (A ++ 34 :: quo (vv.take (j + 1)))) := Lib.hid (by rw [HZ.out, HQS.out, if_pos (.inr h92)]; exact cat92 _ _ _)
                          have hzs2 : (z ++ ⟨#[92]⟩ ++ str [c]).size ≤ 60000 := by rw [HZ2.out, str_size]; exact HLB.out
                          have HME2 : Hid ((vv.take (j + 1)).all mean = true) := Lib.hid (by rw [HMS.out, HME.out, h92]; decide)
                          clear h92 h34
                          go_wp2_with fail
                          go_roundg (VV.size + 1 - (j + 1))
                          case measure => omega
                          case rel => exact ⟨j + 1, _, by omega, rfl, rfl, by go_num, by omega, hzs2, HZ2, HME2⟩
                        have d2 : ((c.toNat : Int) == 92) = false := by
                          have : ¬ (c.toNat : Int) = 92 := fun h => h92 (u8_lit.1 h)
                          simpa using this
                        have HMC : Hid (mean c = wth c) := Lib.hid (by unfold mean; simp [h34, h92])
                        obtain ⟨bw, hbw⟩ : ∃ b, wth c = b := ⟨_, rfl⟩
                        rw [hbw] at HWI HMC
                        clear hbw
                        cases bw with
                        | true =>
                          have HZ2 : Hid (z ++ str [c] = str (A ++ 34 :: quo (vv.take (j + 1)))) := Lib.hid (by rw [HZ.out, HQS.out, if_neg (fun h => h.elim h34 h92)]; exact cat1 _ _ _)
                          have hzs2 : (z ++ str [c]).size ≤ 60000 := by rw [HZ2.out, str_size]; exact HLB.out
                          have HME2 : Hid ((vv.take (j + 1)).all mean = true) := Lib.hid (by rw [HMS.out, HME.out, HMC.out]; rfl)
                          clear h92 h34
                          go_wp2_with (go_at_call 33; refine (HWI.out _).mono ?_; rintro _ w9 ⟨rfl, hw9⟩; subst w9)
                          go_roundg (VV.size + 1 - (j + 1))
                          case measure => omega
                          case rel => exact ⟨j + 1, _, by omega, rfl, rfl, by go_num, by omega, hzs2, HZ2, HME2⟩
                        | false =>
                          have HF := Lib.hid (HFB.out (HALLM.out HMC.out))
                          clear h92 h34
                          go_wp2_with (go_at_call 33; refine (HWI.out _).mono ?_; rintro _ w9 ⟨rfl, hw9⟩; subst w9)
                          go_ret2
                          exact text_bad HF.out (below_call B2.out HB3.out)
                      · have HME2 : Hid (vv.all mean = true) := Lib.hid (by
                          have := HME.out
                          rwa [List.take_of_length_le (by have := HVS.out; omega)] at this)
                        have HPT : Hid (parOk (nm, vv) = true) := Lib.hid (by rw [HPO.out, HME2.out])
                        have HZ2 : Hid (z ++ ⟨#[34]⟩ = str (t ++ wpars (ps.take (k + 1)))) := Lib.hid (by
                          rw [HZ.out, List.take_of_length_le (by have := HVS.out; omega), HTK.out, wpars_snoc, cat34e, ← HA.out]
                          unfold wpar wval
                          simp only
                          rw [HTO.out]
                          simp)
                        have hzs2 : (z ++ ⟨#[34]⟩).size ≤ 21000 := by rw [HZ2.out, str_size]; exact HPRE.out (k + 1)
                        have HA3 : Hid ((ps.take (k + 1)).all parOk = true) := Lib.hid (by rw [HTK.out, List.all_append, HAL2.out]; simp [HPT.out])
                        go_wp2_with fail
                        go_roundg (ps.length + 1 - (k + 1))
                        case measure => omega
                        case rel => exact ⟨k + 1, _, by omega, rfl, by go_num, by omega, hzs2, HZ2, HA3, HB3⟩
                  · have hemp : vv.isEmpty = false := by simpa using hemp
                    have he1 : VV.toList.isEmpty = false := by rw [hvt]; exact hemp
                    have hevl : ¬ ev = vv.length := by
                      rw [hemp] at hti
                      have : decide (ev = vv.length) = false := by simpa using hti.symm
                      exact of_decide_eq_false this
                    have he2 : ((ev : Int) == (VV.size : Int)) = false := by
                      have : ¬ (ev : Int) = (VV.size : Int) := by have := HVS.out; omega
                      simpa using this
                    clear hbn hbt hev hNM hVV hpk hA hvt hti hemp hevl HTI
                    go_wp2_with (go_at_call 32; refine (HNC.out _).mono ?_; rintro _ w3 ⟨rfl, hb3⟩; clear HNC
                                 obtain ⟨x0, x1', _, _⟩ := blk2 (Pw.out.below hb3))
                    go_quiet ((go_at_call 24; refine Calls.quiet_of_same (HTC.out _)))
                    go_wp2_with fail
                    have HIA : Hid (y ++ ⟨#[59, 32]⟩ ++ NM ++ ⟨#[61]⟩ ++ ⟨#[34]⟩ = str (A ++ 34 :: quo (vv.take 0))) := Lib.hid (by rw [HY.out, ← HNM.out, cat4, HA.out, cat34]; rfl)
                    obtain ⟨z0, hz0⟩ : ∃ z0, y ++ ⟨#[59, 32]⟩ ++ NM ++ ⟨#[61]⟩ ++ ⟨#[34]⟩ = z0 := ⟨_, rfl⟩
                    have hz0s : z0.size ≤ 60000 := by rw [← hz0]; simp only [ByteArray.size_append]; have e1 : (⟨#[59, 32]⟩ : ByteArray).size = 2 := rfl; have e2 : (⟨#[61]⟩ : ByteArray).size = 1 := rfl; have e3 : (⟨#[34]⟩ : ByteArray).size = 1 := rfl; omega
                    rw [hz0] at HIA ⊢
                    clear hz0
                    obtain ⟨W3, hW3⟩ : ∃ W3, w3.drewN nq = W3 := ⟨_, rfl⟩
                    rw [hW3]
                    have P3 := Lib.hid ((Pw.out.below hb3).drewN nq)
                    rw [hW3] at P3
                    have HB3 : Hid (Below w2.heap.size w2 W3) := Lib.hid (by rw [← hW3]; exact below_draws (below_call HWA.out hb3) _)
                    obtain ⟨g0, g1, _, _⟩ := blk2 P3.out
                    clear hW3 x0 x1' hb3
                    go_loopg [5, 8] (VV.size + 1) (fun g q5 q8 wi => ∃ (j : Nat) (z : ByteArray), j + g = VV.size + 1 ∧ W3 = wi ∧ q5 = .string z ∧ q8 = .int .i64 (j : Int) ∧ j ≤ VV.size ∧ z.size ≤ 60000 ∧ Hid (z = str (A ++ 34 :: quo (vv.take j))) ∧ Hid ((vv.take j).all mean = true))
                    case atStart => exact ⟨0, z0, by omega, rfl, rfl, rfl, by omega, hz0s, HIA, Lib.hid rfl⟩
                    case round =>
                      obtain ⟨j, z, hjg, hw3, rfl, rfl, hj7, hzs, HZ, HME⟩ := hrel
                      subst hw3
                      by_cases hjlt : j < VV.size
                      · have hjl : j < vv.length := by have := HVS.out; omega
                        have hj0 : (0 : Int) ≤ (j : Int) := by omega
                        have hj3 : (j : Int) < (VV.size : Int) := by omega
                        have hel : vv[j] = VV[j] := by
                          have e := HVL.out
                          subst e
                          rfl
                        have hsl : ∀ w0 : World, (Instr.slice 9 (.string VV) (some (.int .i64 (j : Int))) (some (.int .i64 ((j : Int) + 1))) none).run Try.prog w0 = .ok (.string (str [VV[j]])) w0 := fun w0 => slice_law VV j (j + 1) (by omega) (by omega) HVL.out (by rw [List.drop_eq_getElem_cons hjl, Nat.add_sub_cancel_left, hel]; rfl) w0
                        have HQS := Lib.hid (quo_snoc (vv.take j) vv[j])
                        have HMS : Hid ((vv.take (j + 1)).all mean = ((vv.take j).all mean && mean vv[j])) := Lib.hid (by rw [take_snoc hjl, List.all_append]; simp)
                        rw [← take_snoc hjl, hel] at HQS
                        rw [hel] at HMS
                        have HWI : Hid (∀ w, Calls Try.prog 33 #[.int .u8 (VV[j].toNat : Int)] w fun e w' => e = .returned (.bool (wth VV[j])) ∧ w' = w) := Lib.hid fun w => within_any VV[j] w
                        have HLB : Hid ((A ++ 34 :: quo (vv.take (j + 1))).length ≤ 60000) := Lib.hid (by
                          have := quo_len (vv.take (j + 1))
                          have h2 : (vv.take (j + 1)).length ≤ vv.length := by rw [List.length_take]; omega
                          have h3 := HAL.out
                          have h4 := HSK.out.2
                          rw [List.length_append, List.length_cons]; omega)
                        have HALLM : Hid (mean VV[j] = false → parOk (nm, vv) = false) := Lib.hid (fun h => by
                          rw [HPO.out]
                          have : vv.all mean = false := by
                            cases hx : vv.all mean with
                            | false => rfl
                            | true =>
                              rw [List.all_eq_true] at hx
                              have := hx vv[j] (List.getElem_mem hjl)
                              rw [hel, h] at this; cases this
                          exact this)
                        obtain ⟨c, hcc⟩ : ∃ c, VV[j] = c := ⟨_, rfl⟩
                        have hs1 : (str [c]).size ≤ 1 := by rw [str_size]; exact Nat.le_refl _
                        rw [hcc] at HQS HMS HWI HALLM hsl
                        clear hjl hel
                        by_cases h34 : c = 34
                        · have d1 : ((c.toNat : Int) == 34) = true := by subst h34; decide
                          have HZ2 : Hid (z ++ ⟨#[92]⟩ ++ str [c] = str (A ++ 34 :: quo (vv.take (j + 1)))) := Lib.hid (by rw [HZ.out, HQS.out, if_pos (.inl h34)]; exact cat92 _ _ _)
                          have hzs2 : (z ++ ⟨#[92]⟩ ++ str [c]).size ≤ 60000 := by rw [HZ2.out, str_size]; exact HLB.out
                          have HME2 : Hid ((vv.take (j + 1)).all mean = true) := Lib.hid (by rw [HMS.out, HME.out, h34]; decide)
                          clear h34
                          go_wp2_with fail
                          go_roundg (VV.size + 1 - (j + 1))
                          case measure => omega
                          case rel => exact ⟨j + 1, _, by omega, rfl, rfl, by go_num, by omega, hzs2, HZ2, HME2⟩
                        have d1 : ((c.toNat : Int) == 34) = false := by
                          have : ¬ (c.toNat : Int) = 34 := fun h => h34 (u8_lit.1 h)
                          simpa using this
                        by_cases h92 : c = 92
                        · have d2 : ((c.toNat : Int) == 92) = true := by subst h92; decide
                          have HZ2 : Hid (z ++ ⟨#[92]⟩ ++ str [c] = str (A ++ 34 :: quo (vv.take (j + 1)))) := Lib.hid (by rw [HZ.out, HQS.out, if_pos (.inr h92)]; exact cat92 _ _ _)
                          have hzs2 : (z ++ ⟨#[92]⟩ ++ str [c]).size ≤ 60000 := by rw [HZ2.out, str_size]; exact HLB.out
                          have HME2 : Hid ((vv.take (j + 1)).all mean = true) := Lib.hid (by rw [HMS.out, HME.out, h92]; decide)
                          clear h92 h34
                          go_wp2_with fail
                          go_roundg (VV.size + 1 - (j + 1))
                          case measure => omega
                          case rel => exact ⟨j + 1, _, by omega, rfl, rfl, by go_num, by omega, hzs2, HZ2, HME2⟩
                        have d2 : ((c.toNat : Int) == 92) = false := by
                          have : ¬ (c.toNat : Int) = 92 := fun h => h92 (u8_lit.1 h)
                          simpa using this
                        have HMC : Hid (mean c = wth c) := Lib.hid (by unfold mean; simp [h34, h92])
                        obtain ⟨bw, hbw⟩ : ∃ b, wth c = b := ⟨_, rfl⟩
                        rw [hbw] at HWI HMC
                        clear hbw
                        cases bw with
                        | true =>
                          have HZ2 : Hid (z ++ str [c] = str (A ++ 34 :: quo (vv.take (j + 1)))) := Lib.hid (by rw [HZ.out, HQS.out, if_neg (fun h => h.elim h34 h92)]; exact cat1 _ _ _)
                          have hzs2 : (z ++ str [c]).size ≤ 60000 := by rw [HZ2.out, str_size]; exact HLB.out
                          have HME2 : Hid ((vv.take (j + 1)).all mean = true) := Lib.hid (by rw [HMS.out, HME.out, HMC.out]; rfl)
                          clear h92 h34
                          go_wp2_with (go_at_call 33; refine (HWI.out _).mono ?_; rintro _ w9 ⟨rfl, hw9⟩; subst w9)
                          go_roundg (VV.size + 1 - (j + 1))
                          case measure => omega
                          case rel => exact ⟨j + 1, _, by omega, rfl, rfl, by go_num, by omega, hzs2, HZ2, HME2⟩
                        | false =>
                          have HF := Lib.hid (HFB.out (HALLM.out HMC.out))
                          clear h92 h34
                          go_wp2_with (go_at_call 33; refine (HWI.out _).mono ?_; rintro _ w9 ⟨rfl, hw9⟩; subst w9)
                          go_ret2
                          exact text_bad HF.out (below_call B2.out HB3.out)
                      · have HME2 : Hid (vv.all mean = true) := Lib.hid (by
                          have := HME.out
                          rwa [List.take_of_length_le (by have := HVS.out; omega)] at this)
                        have HPT : Hid (parOk (nm, vv) = true) := Lib.hid (by rw [HPO.out, HME2.out])
                        have HZ2 : Hid (z ++ ⟨#[34]⟩ = str (t ++ wpars (ps.take (k + 1)))) := Lib.hid (by
                          rw [HZ.out, List.take_of_length_le (by have := HVS.out; omega), HTK.out, wpars_snoc, cat34e, ← HA.out]
                          unfold wpar wval
                          simp only
                          rw [HTO.out]
                          simp)
                        have hzs2 : (z ++ ⟨#[34]⟩).size ≤ 21000 := by rw [HZ2.out, str_size]; exact HPRE.out (k + 1)
                        have HA3 : Hid ((ps.take (k + 1)).all parOk = true) := Lib.hid (by rw [HTK.out, List.all_append, HAL2.out]; simp [HPT.out])
                        go_wp2_with fail
                        go_roundg (ps.length + 1 - (k + 1))
                        case measure => omega
                        case rel => exact ⟨k + 1, _, by omega, rfl, by go_num, by omega, hzs2, HZ2, HA3, HB3⟩
            · have HG : Hid (ok (t, ps) = true) := Lib.hid (by
                rw [HOK2.out]
                have := HAL2.out
                rwa [List.take_of_length_le (by omega)] at this)
              have HYT : Hid (y = str (text (t, ps))) := Lib.hid (by rw [HY.out, List.take_of_length_le (by omega)]; rfl)
              go_wp2_with fail
              go_ret2
              exact by rw [HYT.out]; exact text_good HG.out rfl (below_call B2.out HW.out)
    · have d2 : ((c.toNat : Int) != 47) = true := by
        have : ¬ (c.toNat : Int) = 47 := fun h => h47 (u8_lit.1 h)
        simpa using this
      have HF : Hid (ok (t, ps) = false) := Lib.hid (by
        have : ((t.drop k0).head? == some 47) = false := by rw [hhd]; simpa using h47
        rw [HOK.out, HTY.out, this]; rfl)
      clear HOK HTY h47 hhd
      go_enter Try.func19, Try.ntmps19
      go_wp2_with (first
        | (go_at_call 24; refine (HT24.out _).mono ?_; rintro _ w9 ⟨rfl, hw9⟩; subst w9; clear HT24))
      go_ret2
      exact text_bad HF.out HB0.out
  · have d1 : decide ((t.length : Int) ≤ (k0 : Int)) = true := by simp; omega
    have HF : Hid (ok (t, ps) = false) := Lib.hid (by
      rw [HOK.out, HTY.out, head_out h1]; rfl)
    clear HOK HTY
    go_enter Try.func19, Try.ntmps19
    go_wp2_with (first
      | (go_at_call 24; refine (HT24.out _).mono ?_; rintro _ w9 ⟨rfl, hw9⟩; subst w9; clear HT24))
    go_ret2
    exact text_bad HF.out HB0.out

end Go.Proofs.Ytgadpoahjlnheaa.Med
