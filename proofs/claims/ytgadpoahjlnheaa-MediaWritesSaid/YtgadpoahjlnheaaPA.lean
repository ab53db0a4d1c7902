/- The contract of the document's own param. -/
import Derived.Test.YtgadpoahjlnheaaQQ
import Derived.Test.YtgadpoahjlnheaaP
import Derived.Laws.ResultCell
import Derived.Laws.Rows
import Derived.Deep.WholeRow
namespace Go.Proofs.Ytgadpoahjlnheaa.Med
open Go.RowKit
set_option linter.unusedVariables false
set_option linter.unusedSimpArgs false
open Lab (RetS ret_str str str_size str_list str_eta str_inj u8v st_ixb info5 info_parts)
theorem results_cell_tmp2 {fn : Func} {p u v : Tmp} {ty : TypeId} (h : fn.results = #[.cell p ty, .tmp u, .tmp v]) (tmps : Array Value) (P : Program) (w : World) :
    (results fn tmps).run P w =
      ((asAddr (tmps.getD p undef)).run P w).andThen fun a w₁ => ((loadVar ty a).run P w₁).andThen fun x w₂ => .ok (.tuple #[x, tmps.getD u undef, tmps.getD v undef]) w₂ := by
  simp only [results, h]
  simp [Sem.run_bind, Result.andThen]
theorem info48z : (Try.prog.info? 48).map (fun i => (i.zero, i.size)) = some (some (.agg #[.string ⟨#[]⟩, .string ⟨#[]⟩]), 2) := by kernel_rfl
theorem load48 {W : World} {R : Nat} {x y : Value} (h : Blk W R #[x, y] 48) : (loadVar 48 ⟨R, 0, none⟩).run Try.prog W = .ok (.agg #[x, y]) W :=
  run_loadVar_row W R 48 48 #[x, y] (0, 0) _ h Try.underlying48 rfl (zero_of_info info48z).2
/-- What param tells. -/
def PmR (l : List UInt8) (r : Option (Par × List UInt8)) (w : World) (e : Ending) (w' : World) : Prop :=
  (match r with
    | none => ∃ (x y : ByteArray) (i : Int), e = .returned (.tuple #[.agg #[.string x, .string y], .int .i64 i, .bool false])
    | some q => e = .returned (.tuple #[.agg #[.string (str q.1.1), .string (str q.1.2)], .int .i64 ((l.length - q.2.length : Nat) : Int), .bool true])) ∧ Below w.heap.size w w'
theorem pm_no {l : List UInt8} {r : Option (Par × List UInt8)} {w w' : World} {x y : ByteArray} {i : Int} (h : r = none) (hb : Below w.heap.size w w') : PmR l r w (.returned (.tuple #[.agg #[.string x, .string y], .int .i64 i, .bool false])) w' := by
  subst h; exact ⟨⟨x, y, i, rfl⟩, hb⟩
theorem pm_yes {l : List UInt8} {r : Option (Par × List UInt8)} {w w' : World} {x y R : List UInt8} {i : Int} (h : r = some ((x, y), R)) (hi : i = ((l.length - R.length : Nat) : Int)) (hb : Below w.heap.size w w') : PmR l r w (.returned (.tuple #[.agg #[.string (str x), .string (str y)], .int .i64 i, .bool true])) w' := by
  subst h; subst hi; exact ⟨rfl, hb⟩
theorem prm_none1 {l : List UInt8} {a : Nat} (h : endW sgn l a = a) : prm (l.drop a) = none := by
  have : (l.drop a).takeWhile sgn = [] := by
    unfold endW at h
    exact List.eq_nil_of_length_eq_zero (by omega)
  unfold prm
  rw [if_pos this]
theorem prm_form {l : List UInt8} {a : Nat} (h : ¬ endW sgn l a = a) : prm (l.drop a) = if (l.drop (endW sgn l a)).head? = some 61 then (val (l.drop (endW sgn l a)).tail).map fun p => ((lwr ((l.drop a).takeWhile sgn), p.1), p.2) else none := by
  have : ¬ (l.drop a).takeWhile sgn = [] := by
    intro e
    unfold endW at h
    rw [e] at h
    exact h rfl
  unfold prm
  rw [if_neg this, drop_end]
theorem val_tok {l : List UInt8} {b : Nat} (h : ¬ (l.drop b).head? = some 34) : val (l.drop b) = if endW sgn l b = b then none else some ((l.drop b).takeWhile sgn, l.drop (endW sgn l b)) := by
  unfold val
  rw [if_neg h, drop_end]
  by_cases e : endW sgn l b = b
  · have : (l.drop b).takeWhile sgn = [] := by
      unfold endW at e
      exact List.eq_nil_of_length_eq_zero (by omega)
    rw [if_pos this, if_pos e]
  · have : ¬ (l.drop b).takeWhile sgn = [] := by
      intro h0
      unfold endW at e
      rw [h0] at e
      exact e rfl
    rw [if_neg this, if_neg e]
theorem val_quo {l : List UInt8} {b : Nat} (h : (l.drop b).head? = some 34) : val (l.drop b) = qtd (l.drop (b + 1)) := by
  unfold val
  rw [if_pos h, List.tail_drop]
theorem head_at {l : List UInt8} {b : Nat} (h : b < l.length) : (l.drop b).head? = some l[b] := by
  rw [List.head?_drop, List.getElem?_eq_getElem h]
theorem head_out {l : List UInt8} {b : Nat} (h : ¬ b < l.length) : (l.drop b).head? = none := by
  rw [List.head?_drop, List.getElem?_eq_none (by omega)]
set_option maxRecDepth 100000 in
set_option maxHeartbeats 8000000 in
theorem param_any (l : List UInt8) (a : Nat) (w : World) (hs : l.length ≤ 100000) (ha : a ≤ l.length) : Calls Try.prog 25 #[.string (str l), .int .i64 (a : Int)] w fun e w' => PmR l (prm (l.drop a)) w e w' := by
  have HT : Hid (∀ (a : Nat) (w : World), a ≤ l.length → Calls Try.prog 24 #[.string (str l), .int .i64 (a : Int)] w fun e w' => e = .returned (.int .i64 (endW sgn l a : Int)) ∧ w' = w) := Lib.hid fun a w h => token_str l a w (by unfold maxLen; omega) h
  have HQ : Hid (∀ (a : Nat) (w : World), a < l.length → Calls Try.prog 47 #[.string (str l), .int .i64 (a : Int)] w fun e w' => QR l (qtd (l.drop (a + 1))) w e w') := Lib.hid fun a w h => quoted_any l a w hs h
  have HLW : Hid (∀ (x : List UInt8) (w : World), x.length ≤ l.length → Calls Try.prog 16 #[.string (str x)] w fun e w' => RetS (lwr x) w e w') := Lib.hid fun x w h => rlower_str x w (by unfold maxLen; omega)
  have HSL : Hid (∀ (x y : Nat), x ≤ y → y ≤ l.length → ∀ w0 : World, (Instr.slice 9 (.string (str l)) (some (.int .i64 (x : Int))) (some (.int .i64 (y : Int))) none).run Try.prog w0 = .ok (.string (str ((l.drop x).take (y - x)))) w0) := Lib.hid fun x y h1 h2 w0 => slice_law (str l) x y h1 (by rw [str_size]; exact h2) (str_list l) rfl w0
  have hge := endW_ge sgn l a
  have hle := endW_le (p := sgn) ha
  have HS1 := Lib.hid (slice_end sgn l a)
  have HP1 := Lib.hid fun h => prm_none1 (l := l) (a := a) h
  have HP2 := Lib.hid fun h => prm_form (l := l) (a := a) h
  obtain ⟨r, hr⟩ : ∃ r, prm (l.drop a) = r := ⟨_, rfl⟩
  have HTa := Lib.hid fun w => HT.out a w ha
  obtain ⟨en, hen⟩ : ∃ en, endW sgn l a = en := ⟨_, rfl⟩
  rw [hen] at hge hle HS1 HP1 HP2 HTa
  rw [hr] at HP1 HP2 ⊢
  clear hr hen
  obtain ⟨s, hs'⟩ : ∃ s, str l = s := ⟨_, rfl⟩
  have hsz : s.size = l.length := by rw [← hs', str_size]
  have HL : Hid (s.data.toList = l) := Lib.hid (by rw [← hs', str_list])
  have HSZ := Lib.hid hsz
  have hs6 : s.size ≤ 100000 := by omega
  have has : a ≤ s.size := by omega
  have hes : en ≤ s.size := by omega
  rw [hs'] at HT HTa HQ HSL ⊢
  have HB0 : Hid (Below w.heap.size w (w.alloc (.cells #[.string ⟨#[]⟩, .string ⟨#[]⟩] 48))) := Lib.hid ((Below.refl _ w).alloc (Nat.le_refl _) _)
  have hk0 := Lib.hid (Blk.new w #[.string ⟨#[]⟩, .string ⟨#[]⟩] 48)
  clear hs' hsz hs ha hle
  by_cases h1 : en = a
  · have HN := Lib.hid (HP1.out h1)
    have d1 : ((en : Int) == (a : Int)) = true := by rw [h1]; simp
    clear h1 HP1 HP2
    go_enter Try.func25, Try.ntmps25
    go_wp2_with (go_at_call 24; refine (HTa.out _).mono ?_; rintro _ w9 ⟨rfl, hw9⟩; subst w9; clear HTa)
    refine bodyPost_ret (v := .tuple #[.agg #[.string ⟨#[]⟩, .string ⟨#[]⟩], .int .i64 0, .bool false]) ?_ rfl (pm_no HN.out HB0.out)
    rw [results_cell_tmp2 (p := 4) (u := 5) (v := 6) (ty := 48) rfl]
    have hl := load48 hk0.out
    simp [asAddr, hl]
  have HP3 := Lib.hid (HP2.out h1)
  have d1 : ((en : Int) == (a : Int)) = false := by
    have : ¬ (en : Int) = (a : Int) := by omega
    simpa using this
  clear HP1 HP2
  by_cases h2 : en < s.size
  · have hel : en < l.length := by have := HSZ.out; omega
    have d2 : decide ((s.size : Int) ≤ (en : Int)) = false := by simp; omega
    have he0 : (0 : Int) ≤ (en : Int) := by omega
    have he3 : (en : Int) < (s.size : Int) := by omega
    have hhd := head_at hel
    have hel2 : l[en] = s[en] := by
      have e := HL.out
      subst e
      rfl
    rw [hel2] at hhd
    rw [hhd, List.tail_drop] at HP3
    obtain ⟨c, hc⟩ : ∃ c, s[en] = c := ⟨_, rfl⟩
    rw [hc] at HP3
    clear hhd hel2
    by_cases h61 : c = 61
    · have d3 : ((c.toNat : Int) != 61) = false := by subst h61; decide
      have hsl1 := HSL.out a en hge (by omega)
      obtain ⟨X, hX⟩ : ∃ X, (l.drop a).take (en - a) = X := ⟨_, rfl⟩
      have hXl : X.length ≤ l.length := by rw [← hX, List.length_take, List.length_drop]; omega
      have HP4 : Hid (r = (val (l.drop (en + 1))).map fun p => ((lwr X, p.1), p.2)) := Lib.hid (by
        rw [HP3.out, if_pos (by rw [h61]), ← HS1.out, hX])
      have HL1 := Lib.hid fun w => HLW.out X w hXl
      rw [hX] at hsl1
      obtain ⟨nm, hnm⟩ : ∃ nm, lwr X = nm := ⟨_, rfl⟩
      rw [hnm] at HP4 HL1
      clear h61 hX hnm HP3 HS1 hXl HLW
      by_cases hq : (l.drop (en + 1)).head? = some 34
      · have hb1s : en + 1 < s.size := by
          rcases Nat.lt_or_ge (en + 1) s.size with h | h
          · exact h
          · rw [head_out (by have := HSZ.out; omega)] at hq; cases hq
        have hb1l : en + 1 < l.length := by have := HSZ.out; omega
        have hf0 : (0 : Int) ≤ (en : Int) + 1 := by omega
        have hf3 : (en : Int) + 1 < (s.size : Int) := by omega
        have d4 : decide ((en : Int) + 1 < (s.size : Int)) = true := by simpa using hf3
        have hs34 : s[en + 1] = 34 := by
          rw [head_at hb1l] at hq
          have : l[en + 1] = s[en + 1] := by
            have e := HL.out
            subst e
            rfl
          rw [← this]; exact Option.some.inj hq
        have d5 : ((s[en + 1].toNat : Int) == 34) = true := by rw [hs34]; decide
        rw [val_quo hq] at HP4
        have HQ1 := Lib.hid fun w => HQ.out (en + 1) w hb1l
        obtain ⟨r2, hr2⟩ : ∃ r2, qtd (l.drop (en + 1 + 1)) = r2 := ⟨_, rfl⟩
        rw [hr2] at HP4 HQ1
        clear hr2 hq hs34 HQ HT HSL hel
        cases r2 with
        | none =>
          have HN : Hid (r = none) := Lib.hid (by rw [HP4.out]; rfl)
          have HQ2 : Hid (∀ w, Calls Try.prog 47 #[.string s, .int .i64 ((en : Int) + 1)] w fun e w' => e = .returned (.tuple #[.string (str []), .int .i64 0, .bool false]) ∧ Below w.heap.size w w') := HQ1
          clear HQ1 HP4
          go_enter Try.func25, Try.ntmps25
          go_wp2_with (first
            | (go_at_call 24; refine (HTa.out _).mono ?_; rintro _ w9 ⟨rfl, hw9⟩; subst w9; clear HTa)
            | (go_at_call 16; refine (HL1.out _).mono ?_; rintro _ w1 ⟨rfl, hb1⟩; clear HL1
               have K1 := Lib.hid (hk0.out.below hb1)
               have B1 := Lib.hid (below_call HB0.out hb1)
               have P1 := Lib.hid (Blk.new w1 #[.string (str nm), .string ⟨#[]⟩] 48)
               have K1a := Lib.hid (K1.out.alloc (.cells #[.string (str nm), .string ⟨#[]⟩] 48))
               have B1a := Lib.hid (below_call B1.out ((Below.refl w1.heap.size w1).alloc (Nat.le_refl _) (.cells #[.string (str nm), .string ⟨#[]⟩] 48)))
               have hz1 := B1.out.size
               have hne := K1.out.lt)
            | (go_at_call 47; refine (HQ2.out _).mono ?_; rintro _ w2 ⟨rfl, hb2⟩; clear HQ2
               have B2 := Lib.hid (below_call B1a.out hb2)
               obtain ⟨x0, x1, x2, x3⟩ := blk2 (P1.out.below hb2)
               have P3 := Lib.hid (Blk.set (P1.out.below hb2) (o := 1) (v := .string (str [])) (ys := #[.string (str nm), .string (str [])]) rfl)
               have K3 := Lib.hid (Blk.set' (a := ⟨w1.heap.size, 1, none⟩) (v := .string (str [])) (K1a.out.below hb2) (Nat.ne_of_lt hne))
               obtain ⟨y0, y1, y2, y3⟩ := blk2 P3.out
               obtain ⟨z0, z1, z2, z3⟩ := blk2 K3.out))
          refine bodyPost_ret (v := .tuple #[.agg #[.string (str nm), .string (str [])], .int .i64 0, .bool false]) ?_ rfl (pm_no HN.out ((B2.out.setCell (p := ⟨w1.heap.size, 1, none⟩) hz1 _).setCell (p := ⟨w.heap.size, 0, none⟩) (Nat.le_refl _) _ |>.setCell (p := ⟨w.heap.size, 1, none⟩) (Nat.le_refl _) _))
          rw [results_cell_tmp2 (p := 4) (u := 5) (v := 6) (ty := 48) rfl]
          have hl := load48 ((K3.out.set (o := 0) (v := .string (str nm)) rfl).set (o := 1) (v := .string (str [])) rfl)
          simp [asAddr, hl]
        | some q =>
          obtain ⟨v, Rr⟩ := q
          have HN : Hid (r = some ((nm, v), Rr)) := Lib.hid (by rw [HP4.out]; rfl)
          obtain ⟨i2, hi2⟩ : ∃ i2 : Nat, l.length - Rr.length = i2 := ⟨_, rfl⟩
          have HI2 := Lib.hid hi2
          have HQ2 : Hid (∀ w, Calls Try.prog 47 #[.string s, .int .i64 ((en : Int) + 1)] w fun e w' => e = .returned (.tuple #[.string (str v), .int .i64 (i2 : Int), .bool true]) ∧ Below w.heap.size w w') := Lib.hid fun w => by
            have := HQ1.out w
            unfold QR at this
            simp only [hi2] at this
            exact this
          clear HQ1 HP4 hi2
          go_enter Try.func25, Try.ntmps25
          go_wp2_with (first
            | (go_at_call 24; refine (HTa.out _).mono ?_; rintro _ w9 ⟨rfl, hw9⟩; subst w9; clear HTa)
            | (go_at_call 16; refine (HL1.out _).mono ?_; rintro _ w1 ⟨rfl, hb1⟩; clear HL1
               have K1 := Lib.hid (hk0.out.below hb1)
               have B1 := Lib.hid (below_call HB0.out hb1)
               have P1 := Lib.hid (Blk.new w1 #[.string (str nm), .string ⟨#[]⟩] 48)
               have K1a := Lib.hid (K1.out.alloc (.cells #[.string (str nm), .string ⟨#[]⟩] 48))
               have B1a := Lib.hid (below_call B1.out ((Below.refl w1.heap.size w1).alloc (Nat.le_refl _) (.cells #[.string (str nm), .string ⟨#[]⟩] 48)))
               have hz1 := B1.out.size
               have hne := K1.out.lt)
            | (go_at_call 47; refine (HQ2.out _).mono ?_; rintro _ w2 ⟨rfl, hb2⟩; clear HQ2
               have B2 := Lib.hid (below_call B1a.out hb2)
               obtain ⟨x0, x1, x2, x3⟩ := blk2 (P1.out.below hb2)
               have P3 := Lib.hid (Blk.set (P1.out.below hb2) (o := 1) (v := .string (str v)) (ys := #[.string (str nm), .string (str v)]) rfl)
               have K3 := Lib.hid (Blk.set' (a := ⟨w1.heap.size, 1, none⟩) (v := .string (str v)) (K1a.out.below hb2) (Nat.ne_of_lt hne))
               obtain ⟨y0, y1, y2, y3⟩ := blk2 P3.out
               obtain ⟨z0, z1, z2, z3⟩ := blk2 K3.out))
          refine bodyPost_ret (v := .tuple #[.agg #[.string (str nm), .string (str v)], .int .i64 (i2 : Int), .bool true]) ?_ rfl (pm_yes HN.out (by rw [HI2.out]) ((B2.out.setCell (p := ⟨w1.heap.size, 1, none⟩) hz1 _).setCell (p := ⟨w.heap.size, 0, none⟩) (Nat.le_refl _) _ |>.setCell (p := ⟨w.heap.size, 1, none⟩) (Nat.le_refl _) _))
          rw [results_cell_tmp2 (p := 4) (u := 5) (v := 6) (ty := 48) rfl]
          have hl := load48 ((K3.out.set (o := 0) (v := .string (str nm)) rfl).set (o := 1) (v := .string (str v)) rfl)
          simp [asAddr, hl]
      · rw [val_tok hq] at HP4
        have hge2 := endW_ge sgn l (en + 1)
        have hle2 := endW_le (p := sgn) (show en + 1 ≤ l.length by omega)
        have HS2 := Lib.hid (slice_end sgn l (en + 1))
        have HTb := Lib.hid fun w => HT.out (en + 1) w (by omega)
        obtain ⟨e2, he2⟩ : ∃ e2, endW sgn l (en + 1) = e2 := ⟨_, rfl⟩
        rw [he2] at hge2 hle2 HP4 HS2 HTb
        have hsl2 := HSL.out (en + 1) e2 hge2 hle2
        rw [HS2.out] at hsl2
        obtain ⟨v, hv⟩ : ∃ v, (l.drop (en + 1)).takeWhile sgn = v := ⟨_, rfl⟩
        rw [hv] at HP4 hsl2
        have he2s : e2 ≤ s.size := by have := HSZ.out; omega
        have HLN : Hid ((l.drop e2).length = l.length - e2) := Lib.hid (by rw [List.length_drop])
        have HE2L : Hid (e2 ≤ l.length) := Lib.hid hle2
        have hz34 : ∀ h : en + 1 < s.size, ((s[en + 1].toNat : Int) == 34) = false := fun h => by
          have hb1l : en + 1 < l.length := by have := HSZ.out; omega
          rw [head_at hb1l] at hq
          have : l[en + 1] = s[en + 1] := by
            have e := HL.out
            subst e
            rfl
          rw [this] at hq
          have h3 : ¬ s[en + 1] = 34 := fun e => hq (by rw [e])
          have : ¬ (s[en + 1].toNat : Int) = 34 := fun e => h3 (u8_lit.1 e)
          simpa using this
        have HZ := Lib.hid hz34
        have HTb2 : Hid (∀ w, Calls Try.prog 24 #[.string s, .int .i64 ((en : Int) + 1)] w fun e w' => e = .returned (.int .i64 (e2 : Int)) ∧ w' = w) := HTb
        have hsl3 : ∀ w0 : World, (Instr.slice 9 (.string s) (some (.int .i64 ((en : Int) + 1))) (some (.int .i64 (e2 : Int))) none).run Try.prog w0 = .ok (.string (str v)) w0 := hsl2
        clear hz34 he2 hv hq HQ HT HSL hel HTb HS2 hle2 hsl2
        have hf0 : (0 : Int) ≤ (en : Int) + 1 := by omega
        by_cases hgt : e2 = en + 1
        · have d6 : decide ((en : Int) + 1 < (e2 : Int)) = false := by simp; omega
          have HN : Hid (r = none) := Lib.hid (by rw [HP4.out, if_pos hgt]; rfl)
          clear HP4 hgt
          by_cases hb1s : en + 1 < s.size
          · have hf3 : (en : Int) + 1 < (s.size : Int) := by omega
            have d4 : decide ((en : Int) + 1 < (s.size : Int)) = true := by simpa using hf3
            have d5 := HZ.out hb1s
            go_enter Try.func25, Try.ntmps25
            go_wp2_with (first
              | (go_at_call 24; refine (HTa.out _).mono ?_; rintro _ w9 ⟨rfl, hw9⟩; subst w9; clear HTa)
              | (go_at_call 16; refine (HL1.out _).mono ?_; rintro _ w1 ⟨rfl, hb1⟩; clear HL1
                 have K1 := Lib.hid (hk0.out.below hb1)
                 have B1 := Lib.hid (below_call HB0.out hb1)
                 have P1 := Lib.hid (Blk.new w1 #[.string (str nm), .string ⟨#[]⟩] 48)
                 have K1a := Lib.hid (K1.out.alloc (.cells #[.string (str nm), .string ⟨#[]⟩] 48))
                 have B1a := Lib.hid (below_call B1.out ((Below.refl w1.heap.size w1).alloc (Nat.le_refl _) (.cells #[.string (str nm), .string ⟨#[]⟩] 48)))
                 have hz1 := B1.out.size
                 have hne := K1.out.lt)
              | (go_at_call 24; refine (HTb2.out _).mono ?_; rintro _ w9 ⟨rfl, hw9⟩; subst w9; clear HTb2
                 have B3 := Lib.hid ((((B1.out.setCell (p := ⟨w.heap.size, 0, none⟩) (Nat.le_refl _) (.string (str nm))).setCell (p := ⟨w.heap.size, 1, none⟩) (Nat.le_refl _) (.string (str v))).alloc (by simpa [World.setCell] using hz1) (.cells #[.string (str nm), .string (str v)] 48)))
                 obtain ⟨z0, z1, z2, z3⟩ := blk2 K1.out))
            refine bodyPost_ret (v := .tuple #[.agg #[.string (str nm), .string (str v)], .int .i64 (e2 : Int), .bool false]) ?_ rfl (pm_no HN.out B3.out)
            rw [results_cell_tmp2 (p := 4) (u := 5) (v := 6) (ty := 48) rfl]
            have hl := load48 (((K1.out.set (o := 0) (v := .string (str nm)) rfl).set (o := 1) (v := .string (str v)) rfl).alloc (.cells #[.string (str nm), .string (str v)] 48))
            simp [asAddr, hl]
          · have d4 : decide ((en : Int) + 1 < (s.size : Int)) = false := by simp; omega
            go_enter Try.func25, Try.ntmps25
            go_wp2_with (first
              | (go_at_call 24; refine (HTa.out _).mono ?_; rintro _ w9 ⟨rfl, hw9⟩; subst w9; clear HTa)
              | (go_at_call 16; refine (HL1.out _).mono ?_; rintro _ w1 ⟨rfl, hb1⟩; clear HL1
                 have K1 := Lib.hid (hk0.out.below hb1)
                 have B1 := Lib.hid (below_call HB0.out hb1)
                 have P1 := Lib.hid (Blk.new w1 #[.string (str nm), .string ⟨#[]⟩] 48)
                 have K1a := Lib.hid (K1.out.alloc (.cells #[.string (str nm), .string ⟨#[]⟩] 48))
                 have B1a := Lib.hid (below_call B1.out ((Below.refl w1.heap.size w1).alloc (Nat.le_refl _) (.cells #[.string (str nm), .string ⟨#[]⟩] 48)))
                 have hz1 := B1.out.size
                 have hne := K1.out.lt)
              | (go_at_call 24; refine (HTb2.out _).mono ?_; rintro _ w9 ⟨rfl, hw9⟩; subst w9; clear HTb2
                 have B3 := Lib.hid ((((B1.out.setCell (p := ⟨w.heap.size, 0, none⟩) (Nat.le_refl _) (.string (str nm))).setCell (p := ⟨w.heap.size, 1, none⟩) (Nat.le_refl _) (.string (str v))).alloc (by simpa [World.setCell] using hz1) (.cells #[.string (str nm), .string (str v)] 48)))
                 obtain ⟨z0, z1, z2, z3⟩ := blk2 K1.out))
            refine bodyPost_ret (v := .tuple #[.agg #[.string (str nm), .string (str v)], .int .i64 (e2 : Int), .bool false]) ?_ rfl (pm_no HN.out B3.out)
            rw [results_cell_tmp2 (p := 4) (u := 5) (v := 6) (ty := 48) rfl]
            have hl := load48 (((K1.out.set (o := 0) (v := .string (str nm)) rfl).set (o := 1) (v := .string (str v)) rfl).alloc (.cells #[.string (str nm), .string (str v)] 48))
            simp [asAddr, hl]
        · have d6 : decide ((en : Int) + 1 < (e2 : Int)) = true := by simp; omega
          have HN : Hid (r = some ((nm, v), l.drop e2)) := Lib.hid (by rw [HP4.out, if_neg hgt]; rfl)
          clear HP4 hgt
          by_cases hb1s : en + 1 < s.size
          · have hf3 : (en : Int) + 1 < (s.size : Int) := by omega
            have d4 : decide ((en : Int) + 1 < (s.size : Int)) = true := by simpa using hf3
            have d5 := HZ.out hb1s
            go_enter Try.func25, Try.ntmps25
            go_wp2_with (first
              | (go_at_call 24; refine (HTa.out _).mono ?_; rintro _ w9 ⟨rfl, hw9⟩; subst w9; clear HTa)
              | (go_at_call 16; refine (HL1.out _).mono ?_; rintro _ w1 ⟨rfl, hb1⟩; clear HL1
                 have K1 := Lib.hid (hk0.out.below hb1)
                 have B1 := Lib.hid (below_call HB0.out hb1)
                 have P1 := Lib.hid (Blk.new w1 #[.string (str nm), .string ⟨#[]⟩] 48)
                 have K1a := Lib.hid (K1.out.alloc (.cells #[.string (str nm), .string ⟨#[]⟩] 48))
                 have B1a := Lib.hid (below_call B1.out ((Below.refl w1.heap.size w1).alloc (Nat.le_refl _) (.cells #[.string (str nm), .string ⟨#[]⟩] 48)))
                 have hz1 := B1.out.size
                 have hne := K1.out.lt)
              | (go_at_call 24; refine (HTb2.out _).mono ?_; rintro _ w9 ⟨rfl, hw9⟩; subst w9; clear HTb2
                 have B3 := Lib.hid ((((B1.out.setCell (p := ⟨w.heap.size, 0, none⟩) (Nat.le_refl _) (.string (str nm))).setCell (p := ⟨w.heap.size, 1, none⟩) (Nat.le_refl _) (.string (str v))).alloc (by simpa [World.setCell] using hz1) (.cells #[.string (str nm), .string (str v)] 48)))
                 obtain ⟨z0, z1, z2, z3⟩ := blk2 K1.out))
            refine bodyPost_ret (v := .tuple #[.agg #[.string (str nm), .string (str v)], .int .i64 (e2 : Int), .bool true]) ?_ rfl (pm_yes (i := (e2 : Int)) HN.out (by rw [HLN.out]; have := HE2L.out; omega) B3.out)
            rw [results_cell_tmp2 (p := 4) (u := 5) (v := 6) (ty := 48) rfl]
            have hl := load48 (((K1.out.set (o := 0) (v := .string (str nm)) rfl).set (o := 1) (v := .string (str v)) rfl).alloc (.cells #[.string (str nm), .string (str v)] 48))
            simp [asAddr, hl]
          · have d4 : decide ((en : Int) + 1 < (s.size : Int)) = false := by simp; omega
            go_enter Try.func25, Try.ntmps25
            go_wp2_with (first
              | (go_at_call 24; refine (HTa.out _).mono ?_; rintro _ w9 ⟨rfl, hw9⟩; subst w9; clear HTa)
              | (go_at_call 16; refine (HL1.out _).mono ?_; rintro _ w1 ⟨rfl, hb1⟩; clear HL1
                 have K1 := Lib.hid (hk0.out.below hb1)
                 have B1 := Lib.hid (below_call HB0.out hb1)
                 have P1 := Lib.hid (Blk.new w1 #[.string (str nm), .string ⟨#[]⟩] 48)
                 have K1a := Lib.hid (K1.out.alloc (.cells #[.string (str nm), .string ⟨#[]⟩] 48))
                 have B1a := Lib.hid (below_call B1.out ((Below.refl w1.heap.size w1).alloc (Nat.le_refl _) (.cells #[.string (str nm), .string ⟨#[]⟩] 48)))
                 have hz1 := B1.out.size
                 have hne := K1.out.lt)
              | (go_at_call 24; refine (HTb2.out _).mono ?_; rintro _ w9 ⟨rfl, hw9⟩; subst w9; clear HTb2
                 have B3 := Lib.hid ((((B1.out.setCell (p := ⟨w.heap.size, 0, none⟩) (Nat.le_refl _) (.string (str nm))).setCell (p := ⟨w.heap.size, 1, none⟩) (Nat.le_refl _) (.string (str v))).alloc (by simpa [World.setCell] using hz1) (.cells #[.string (str nm), .string (str v)] 48)))
                 obtain ⟨z0, z1, z2, z3⟩ := blk2 K1.out))
            refine bodyPost_ret (v := .tuple #[.agg #[.string (str nm), .string (str v)], .int .i64 (e2 : Int), .bool true]) ?_ rfl (pm_yes (i := (e2 : Int)) HN.out (by rw [HLN.out]; have := HE2L.out; omega) B3.out)
            rw [results_cell_tmp2 (p := 4) (u := 5) (v := 6) (ty := 48) rfl]
            have hl := load48 (((K1.out.set (o := 0) (v := .string (str nm)) rfl).set (o := 1) (v := .string (str v)) rfl).alloc (.cells #[.string (str nm), .string (str v)] 48))
            simp [asAddr, hl]
    · have d3 : ((c.toNat : Int) != 61) = true := by
        have : ¬ (c.toNat : Int) = 61 := fun h => h61 (u8_lit.1 h)
        simpa using this
      have HN : Hid (r = none) := Lib.hid (by rw [HP3.out, if_neg (by simpa using h61)])
      clear h61 HP3 hel
      go_enter Try.func25, Try.ntmps25
      go_wp2_with (go_at_call 24; refine (HTa.out _).mono ?_; rintro _ w9 ⟨rfl, hw9⟩; subst w9; clear HTa)
      refine bodyPost_ret (v := .tuple #[.agg #[.string ⟨#[]⟩, .string ⟨#[]⟩], .int .i64 0, .bool false]) ?_ rfl (pm_no HN.out HB0.out)
      rw [results_cell_tmp2 (p := 4) (u := 5) (v := 6) (ty := 48) rfl]
      have hl := load48 hk0.out
      simp [asAddr, hl]
  · have d2 : decide ((s.size : Int) ≤ (en : Int)) = true := by simp; omega
    have HN : Hid (r = none) := Lib.hid (by rw [HP3.out, head_out (by have := HSZ.out; omega), if_neg (by simp)])
    clear HP3
    go_enter Try.func25, Try.ntmps25
    go_wp2_with (go_at_call 24; refine (HTa.out _).mono ?_; rintro _ w9 ⟨rfl, hw9⟩; subst w9; clear HTa)
    refine bodyPost_ret (v := .tuple #[.agg #[.string ⟨#[]⟩, .string ⟨#[]⟩], .int .i64 0, .bool false]) ?_ rfl (pm_no HN.out HB0.out)
    rw [results_cell_tmp2 (p := 4) (u := 5) (v := 6) (ty := 48) rfl]
    have hl := load48 hk0.out
    simp [asAddr, hl]
end Go.Proofs.Ytgadpoahjlnheaa.Med
