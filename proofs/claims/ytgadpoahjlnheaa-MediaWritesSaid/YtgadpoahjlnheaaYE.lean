/- The contract of Text. -/
import Derived.Test.YtgadpoahjlnheaaYD
import Derived.Test.YtgadpoahjlnheaaAA
namespace Go.Proofs.Ytgadpoahjlnheaa.Med
open Go.RowKit
set_option linter.unusedVariables false
set_option linter.unusedSimpArgs false
open Lab (RetS ret_str str str_size str_list str_eta str_inj u8v st_ixb sl_ixb info5 info_parts BW bw_new wpList_append_bw Own8 conv_own)
theorem tok_mean (v : List UInt8) : (tok v || v.all mean) = v.all mean := by
  cases h : tok v with
  | false => rfl
  | true =>
    have h2 := (tok_parts h).2
    rw [List.all_eq_true] at h2
    have : v.all mean = true := List.all_eq_true.2 fun c hc => (sgn_facts c (h2 c hc)).2.2.2.2.2.2
    rw [this]; rfl
theorem parOk_eq (p : Par) : parOk p = (nam p.1 && allIn 126 p.2) := by unfold parOk; rw [tok_mean, all126]
def textR (m : Med) : List UInt8 := if ok m = true then text m else []
def textX (m : Med) : Int := if ok m = true then 0 else 2
/-- A Content-Type as it is written, or the error. -/
def TextE (m : Med) (w : World) (e : Ending) (w' : World) : Prop := e = .returned (.tuple #[.string (str (textR m)), .int .i64 (textX m)]) ∧ Below w.heap.size w w'
theorem text_bad {m : Med} {w w' : World} (h : ok m = false) (hb : Below w.heap.size w w') : TextE m w (.returned (.tuple #[.string ⟨#[]⟩, .int .i64 2])) w' := by
  refine ⟨?_, hb⟩
  unfold textR textX; rw [h]; rfl
theorem text_good {m : Med} {w w' : World} {l : List UInt8} (h : ok m = true) (hl : l = text m) (hb : Below w.heap.size w w') : TextE m w (.returned (.tuple #[.string (str l), .int .i64 0])) w' := by
  refine ⟨?_, hb⟩
  unfold textR textX; rw [h, hl]; rfl
theorem cat3 (nm : List UInt8) : (⟨#[59, 32]⟩ : ByteArray) ++ str nm ++ ⟨#[61]⟩ = str (59 :: 32 :: (nm ++ [61])) := by
  apply ByteArray.ext; simp [str]
theorem wpars_snoc (ps : List Par) (p : Par) : wpars (ps ++ [p]) = wpars ps ++ wpar p := by
  unfold wpars; rw [List.flatMap_append]; simp
theorem ptake {ps : List Par} {k : Nat} (h : k < ps.length) : ps.take (k + 1) = ps.take k ++ [ps[k]] := by
  rw [List.take_add_one, List.getElem?_eq_getElem h]; rfl
theorem sum_mem {ps : List Par} {k : Nat} (h : k < ps.length) : ps[k].1.length + ps[k].2.length ≤ sumP ps := by
  induction ps generalizing k with
  | nil => simp at h
  | cons p t ih =>
    rw [sumP_cons]
    cases k with
    | zero => simp
    | succ k =>
      have := ih (k := k) (by simpa using h)
      simp; omega
theorem sum_take (ps : List Par) : ∀ k, sumP (ps.take k) ≤ sumP ps := by
  induction ps with
  | nil => intro k; simp
  | cons p t ih =>
    intro k
    cases k with
    | zero => simp [sumP]
    | succ k => rw [List.take_succ_cons, sumP_cons, sumP_cons]; have := ih k; omega
theorem pre_len (m : Med) (k : Nat) : (m.1 ++ wpars (m.2.take k)).length ≤ 2 * tot m + 5 * m.2.length := by
  have h1 := wpars_len (m.2.take k)
  have h2 := sum_take m.2 k
  have h3 : (m.2.take k).length ≤ m.2.length := by rw [List.length_take]; omega
  unfold tot
  rw [List.length_append]; omega
/-- b = append(b, s...), the new length a letter. -/
theorem wpList_append_bwn {ops : Array Oper} {rest : List Oper} {o : Oper} {a : Act} {Q : Exit → Act → World → Prop} {w : World} (hgd : o.guard = none) (s x : Operand)
    (ho : o.op = .call { callee := .builtin .append, args := #[s, x], argTypes := #[40, 9] })
    (base B cap n : Nat) (l : List UInt8) (hn : l.length = n) (hs : a.eval s = .slice (some ⟨B, 0, none⟩) n cap) (hB : base ≤ B) (hbase : base ≤ w.heap.size) (hbw : BW w B cap l) (hl : n ≤ 200000)
    (y : List UInt8) (hx : a.eval x = .string (str y)) (hy : y.length ≤ 200000)
    (h : ∀ B' cap' n' w', (l ++ y).length = n' → base ≤ B' → BW w' B' cap' (l ++ y) → Below base w w' → (∀ j C T, T ≠ 5 → Blk w j C T → Blk w' j C T) → wpList Try.prog ops Q rest (a.put o.dst (.slice (some ⟨B', 0, none⟩) n' cap')) w') : wpList Try.prog ops Q (o :: rest) a w :=
  wpList_append_bws hgd s x ho base B cap n l hn hs hB hbase hbw hl y hx hy fun B' cap' w' h1 h2 h3 h4 => h B' cap' (n + y.length) w' (by rw [List.length_append, hn]) h1 h2 h3 h4
set_option maxRecDepth 100000 in
set_option maxHeartbeats 8000000 in
theorem text_any (m : Med) (u : Value) (w : World) (hu : Prs w u m.2) (hl : tot m ≤ 3000) (hc : m.2.length ≤ 3000) : Calls Try.prog 18 #[.agg #[.string (str m.1), u]] w fun e w' => TextE m w e w' := by
  obtain ⟨p, cap, rfl⟩ := hu.form
  obtain ⟨t, ps⟩ := m
  have HPRE : Hid (∀ k, (t ++ wpars (ps.take k)).length ≤ 21000) := Lib.hid fun k => by
    have := pre_len (t, ps) k
    simp only at this hc
    omega
  have ht : t.length ≤ 3000 := by unfold tot at hl; simp only at hl; omega
  simp only at hc
  have HSM : Hid (∀ k (h : k < ps.length), ps[k].1.length ≤ 3000 ∧ ps[k].2.length ≤ 3000) := Lib.hid (by
    intro k h
    have := sum_mem h
    unfold tot at hl; simp only at hl; omega)
  have HB0 : Hid (Below w.heap.size w (w.alloc (.cells #[.string (str t), .slice p ps.length cap] 25))) := Lib.hid ((Below.refl _ w).alloc (Nat.le_refl _) _)
  have HU := Lib.hid hu
  have HT : Hid (∀ w, Calls Try.prog 28 #[.string (str t)] w fun e w' => RetB (typ t) w e w') := Lib.hid fun w => isType_any t w (by omega)
  have HOK : Hid (ok (t, ps) = (typ t && ps.all parOk)) := Lib.hid rfl
  have hb0 := Lib.hid (Blk.new w #[.string (str t), .slice p ps.length cap] 25)
  clear hu hl
  obtain ⟨b, hb⟩ : ∃ b, typ t = b := ⟨_, rfl⟩
  rw [hb] at HT HOK
  clear hb
  cases b with
  | false =>
    have HF : Hid (ok (t, ps) = false) := Lib.hid (by rw [HOK.out]; rfl)
    clear HOK HSM HPRE
    go_enter Try.func18, Try.ntmps18
    go_wp2_with (go_at_call 28; refine (HT.out _).mono ?_; rintro _ w1 ⟨rfl, hb1⟩)
    go_ret2
    exact text_bad HF.out (HB0.out.trans (hb1.mono HB0.out.size))
  | true =>
    have HOK2 : Hid (ok (t, ps) = ps.all parOk) := Lib.hid (by rw [HOK.out]; rfl)
    clear HOK
    go_enter Try.func18, Try.ntmps18
    go_wp2_with (go_at_call 28; refine (HT.out _).mono ?_; rintro _ w1 ⟨rfl, hb1⟩
                 obtain ⟨e0, e1, _, _⟩ := blk2 (hb0.out.below hb1)
                 have HB1 : Hid (Below w.heap.size w w1) := Lib.hid (HB0.out.trans (hb1.mono HB0.out.size))
                 obtain ⟨capb, w2, hcv, hbw, hb2⟩ := bw_new w1 t
                 have HBW := Lib.hid hbw
                 have HB2 : Hid (Below w.heap.size w w2) := Lib.hid (HB1.out.trans (hb2.mono HB1.out.size))
                 obtain ⟨_, e3, _, _⟩ := blk2 ((hb0.out.below hb1).below hb2)
                 have hz1 := HB1.out.size
                 clear hb1 hbw hb2 HT)
    go_loopg [4, 17] (ps.length + 1) (fun g q4 q17 wr => ∃ (k n capk G : Nat), k + g = ps.length + 1 ∧ q4 = .slice (some ⟨G, 0, none⟩) n capk ∧ q17 = .int .i64 k ∧ k ≤ ps.length ∧ n ≤ 21000 ∧ w.heap.size ≤ G ∧ Hid ((t ++ wpars (ps.take k)).length = n) ∧ Hid ((ps.take k).all parOk = true) ∧ Hid (BW wr G capk (t ++ wpars (ps.take k))) ∧ Hid (Below w.heap.size w wr))
    case atStart => exact ⟨0, t.length, capb, w1.heap.size, by omega, rfl, rfl, by omega, by omega, hz1, Lib.hid (by simp [wpars]), Lib.hid rfl, Lib.hid (by have := HBW.out; simpa [wpars] using this), HB2⟩
    case round =>
      obtain ⟨k, n, capk, G, hkg, rfl, rfl, hk7, hn2, hGn, HN, HA, HW, HB⟩ := hrel
      have HQ := Lib.hid (HU.out.below HB.out)
      have hwz := HB.out.size
      by_cases hlt : k < ps.length
      · obtain ⟨b, off, rfl, hbl, x1, x2⟩ := (HQ.out.at).2 k hlt
        have hk0 : (0 : Int) ≤ (k : Int) := by omega
        have hk3 : (k : Int) < (ps.length : Int) := by omega
        have HP := Lib.hid (parOk_eq ps[k])
        have HTK := Lib.hid (ptake hlt)
        have HSK := Lib.hid (HSM.out k hlt)
        obtain ⟨⟨nm, vv⟩, hpk⟩ : ∃ q, ps[k] = q := ⟨_, rfl⟩
        rw [hpk] at HP HTK HSK x1 x2
        simp only at HP HTK HSK x1 x2
        have HC1 : Hid (∀ w, Calls Try.prog 29 #[.string (str nm), .int .i64 4] w fun e w' => e = .returned (.bool (nam nm)) ∧ w' = w) := Lib.hid fun w => by
          have := isWord_any 4 (by decide) nm w (by have := HSK.out.1; unfold maxLen; omega)
          rwa [wrd4] at this
        have HC2 : Hid (∀ w, Calls Try.prog 30 #[.string (str vv), .int .i64 126] w fun e w' => e = .returned (.bool (allIn 126 vv)) ∧ w' = w) := Lib.hid fun w => by
          have := isOf_any 126 (by decide) (str vv) w (by have := HSK.out.2; rw [str_size]; unfold maxLen; omega)
          rwa [str_list] at this
        have HC3 : Hid (∀ w, Calls Try.prog 31 #[.string (str vv)] w fun e w' => RetS (wval vv) w e w') := Lib.hid fun w => written_any vv w (by have := HSK.out.2; omega)
        have HFB : Hid (parOk (nm, vv) = false → ok (t, ps) = false) := Lib.hid (fun h => by
          rw [HOK2.out]
          cases hx : ps.all parOk with
          | false => rfl
          | true =>
            rw [List.all_eq_true] at hx
            have := hx ps[k] (List.getElem_mem hlt)
            rw [hpk, h] at this; cases this)
        have HWA := Lib.hid (HW.out.alloc (.cells #[.string (str nm), .string (str vv)] 48))
        have HBA : Hid (Below w.heap.size w (wr.alloc (.cells #[.string (str nm), .string (str vv)] 48))) := Lib.hid (HB.out.alloc hwz _)
        obtain ⟨b1, hb1⟩ : ∃ z, nam nm = z := ⟨_, rfl⟩
        obtain ⟨b2, hb2⟩ : ∃ z, allIn 126 vv = z := ⟨_, rfl⟩
        rw [hb1] at HC1 HP
        rw [hb2] at HC2 HP
        clear hb1 hb2 hpk hbl
        cases b1 with
        | false =>
          have HF := Lib.hid (HFB.out (by rw [HP.out]; rfl))
          go_wp2_with (go_at_call 29; refine (HC1.out _).mono ?_; rintro _ w9 ⟨rfl, hw9⟩; subst w9)
          go_ret2
          exact text_bad HF.out HBA.out
        | true =>
          cases b2 with
          | false =>
            have HF := Lib.hid (HFB.out (by rw [HP.out]; rfl))
            go_wp2_with (first
              | (go_at_call 29; refine (HC1.out _).mono ?_; rintro _ w9 ⟨rfl, hw9⟩; subst w9)
              | (go_at_call 30; refine (HC2.out _).mono ?_; rintro _ w9 ⟨rfl, hw9⟩; subst w9))
            go_ret2
            exact text_bad HF.out HBA.out
          | true =>
            have HP2 : Hid (parOk (nm, vv) = true) := Lib.hid (by rw [HP.out]; rfl)
            have hy1 : (59 :: 32 :: (nm ++ [61])).length ≤ 200000 := by have := HSK.out.1; simp; omega
            have hy2 : (wval vv).length ≤ 200000 := by have := HSK.out.2; have := wval_len vv; omega
            have HE : Hid (t ++ wpars (ps.take k) ++ 59 :: 32 :: (nm ++ [61]) ++ wval vv = t ++ wpars (ps.take (k + 1))) := Lib.hid (by
              rw [HTK.out, wpars_snoc]; simp [wpar])
            have hnm : nm.length ≤ 3000 := HSK.out.1
            have hsn : (str nm).size ≤ 3000 := by rw [str_size]; exact hnm
            go_wp2_with (first
              | (go_at_call 29; refine (HC1.out _).mono ?_; rintro _ w9 ⟨rfl, hw9⟩; subst w9)
              | (go_at_call 30; refine (HC2.out _).mono ?_; rintro _ w9 ⟨rfl, hw9⟩; subst w9)
              | (at_builtin; refine wpList_append_bwn rfl _ _ rfl w.heap.size G capk n (t ++ wpars (ps.take k)) HN.out rfl hGn (by have := HBA.out.size; exact this) HWA.out (by omega) (59 :: 32 :: (nm ++ [61])) (congrArg Value.string (cat3 nm)) hy1 ?_
                 intro G1 cap1 n1 w3 hn1 hG1 hbw1 hb3 hk3
                 obtain ⟨y0, y1, _, _⟩ := blk2 (hk3 _ _ _ (by decide) (Blk.new wr #[.string (str nm), .string (str vv)] 48))
                 have HN1 := Lib.hid hn1
                 have HBW1 := Lib.hid hbw1
                 have hl1 : n1 ≤ 200000 := by
                   rw [← hn1, List.length_append, HN.out]; simp; omega
                 have HB3 : Hid (Below w.heap.size w w3) := Lib.hid (HBA.out.trans hb3)
                 clear hn1 hbw1 HWA HN hk3)
              | (go_at_call 31; refine (HC3.out _).mono ?_; rintro _ w4 ⟨rfl, hb4⟩
                 have HBW2 := Lib.hid (HBW1.out.below hb4)
                 have HB4 : Hid (Below w.heap.size w w4) := Lib.hid (HB3.out.trans (hb4.mono HB3.out.size))
                 clear HBW1)
              | (at_builtin; refine wpList_append_bwn rfl _ _ rfl w.heap.size G1 cap1 n1 _ HN1.out rfl hG1 HB4.out.size HBW2.out hl1 (wval vv) rfl hy2 ?_
                 intro G2 cap2 n2 w5 hn2' hG2 hbw2 hb5 _
                 have HN2 := Lib.hid hn2'
                 have HBW3 := Lib.hid hbw2
                 have HB5 : Hid (Below w.heap.size w w5) := Lib.hid (HB4.out.trans hb5)
                 clear hn2' hbw2 HBW2))
            have hn21 : n2 ≤ 21000 := by rw [← HN2.out, HE.out]; exact HPRE.out (k + 1)
            have HN3 : Hid ((t ++ wpars (ps.take (k + 1))).length = n2) := Lib.hid (by rw [← HE.out]; exact HN2.out)
            have HA3 : Hid ((ps.take (k + 1)).all parOk = true) := Lib.hid (by rw [HTK.out, List.all_append, HA.out]; simp [HP2.out])
            have HBW4 : Hid (BW w5 G2 cap2 (t ++ wpars (ps.take (k + 1)))) := Lib.hid (by rw [← HE.out]; exact HBW3.out)
            go_roundg (gk - 1)
            case measure => omega
            case rel => exact ⟨k + 1, n2, cap2, G2, by omega, rfl, by go_num, by omega, hn21, hG2, HN3, HA3, HBW4, HB5⟩
      · have hcv := HW.out.conv
        rw [HN.out] at hcv
        have HG : Hid (ok (t, ps) = true) := Lib.hid (by
          rw [HOK2.out]
          have := HA.out
          rwa [List.take_of_length_le (by omega)] at this)
        have HL : Hid (t ++ wpars (ps.take k) = text (t, ps)) := Lib.hid (by rw [List.take_of_length_le (by omega)]; rfl)
        go_wp2_with fail
        go_ret2
        exact text_good HG.out HL.out HB.out
end Go.Proofs.Ytgadpoahjlnheaa.Med
