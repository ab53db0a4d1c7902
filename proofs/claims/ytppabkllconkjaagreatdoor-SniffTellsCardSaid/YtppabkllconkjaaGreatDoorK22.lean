/- Joined: MPA, MPB. -/
import Derived.BigQuiet
import Derived.Deep.AppendLies
import Derived.Deep.DeepCutAuto
import Derived.Deep.LoopGhost
import Derived.Deep.QuietTactic
import Derived.Deep.RegionHeld3
import Derived.Deep.RegionLaw
import Derived.Deep.WholeRow
import Derived.Laws.AppendOwn
import Derived.Laws.BytesArg
import Derived.Laws.DeepStrings4
import Derived.Laws.Externs
import Derived.Laws.IdiomStrings
import Derived.Laws.ResultCell
import Derived.Laws.Rows
import Derived.Laws.StructEq
import Derived.Lib.Bytealg
import Derived.Lib.Hide
import Derived.LoopN
import Derived.Maps.AppendAt
import Derived.Maps.Own
import Derived.Maps.OwnSet
import Derived.OpenShut
import Derived.Outline
import Derived.OwnWalk
import Derived.ProofKit
import Derived.StillTailTactics
import Derived.Test.YtppabkllconkjaaGreatDoorRows
import Derived.WalkKit
import Derived.WalkMore
import Derived.Test.YtppabkllconkjaaGreatDoorK05
import Derived.Test.YtppabkllconkjaaGreatDoorK09
import Derived.Test.YtppabkllconkjaaGreatDoorK10
import Derived.Test.YtppabkllconkjaaGreatDoorK11
import Derived.Test.YtppabkllconkjaaGreatDoorK12
import Derived.Test.YtppabkllconkjaaGreatDoorK13
import Derived.Test.YtppabkllconkjaaGreatDoorK14
import Derived.Test.YtppabkllconkjaaGreatDoorK21
/- The contract of the document's own param. -/
namespace Go.Proofs.YtppabkllconkjaaGreatDoor.Med
open Go.RowKit
set_option linter.unusedVariables false
set_option linter.unusedSimpArgs false
set_option maxRecDepth 100000
open Lab (RetS ret_str str str_size str_list str_eta str_inj u8v st_ixb info5 info_parts)
theorem results_cell_tmp2 {fn : Func} {p u v : Tmp} {ty : TypeId} (h : fn.results = #[.cell p ty, .tmp u, .tmp v]) (tmps : Array Value) (P : Program) (w : World) :
    (results fn tmps).run P w =
      ((asAddr (tmps.getD p undef)).run P w).andThen fun a w₁ => ((loadVar ty a).run P w₁).andThen fun x w₂ => .ok (.tuple #[x, tmps.getD u undef, tmps.getD v undef]) w₂ := by
  simp only [results, h]
  simp [Sem.run_bind, Result.andThen]
theorem info48z : (Tryz.prog.info? 92).map (fun i => (i.zero, i.size)) = some (some (.agg #[.string ⟨#[]⟩, .string ⟨#[]⟩]), 2) := by kernel_rfl
theorem load48 {W : World} {R : Nat} {x y : Value} (h : Blk W R #[x, y] 92) : (loadVar 92 ⟨R, 0, none⟩).run Tryz.prog W = .ok (.agg #[x, y]) W :=
  run_loadVar_row W R 92 92 #[x, y] (0, 0) _ h Tryz.underlying92 rfl (zero_of_info info48z).2
/-- What param tells. -/
def PmR (l : List UInt8) (r : Option (Par × List UInt8)) (w : World) (e : Ending) (w' : World) : Prop :=
  (match r with
    | none => ∃ (x y : ByteArray) (i : Int), e = .returned (.tuple #[.agg #[.string x, .string y], .int .i64 i, .bool false])
    | some q => e = .returned (.tuple #[.agg #[.string (str q.1.1), .string (str q.1.2)], .int .i64 ((l.length - q.2.length : Nat) : Int), .bool true])) ∧ Below w.heap.size w w'
theorem pm_no {l : List UInt8} {r : Option (Par × List UInt8)} {w w' : World} {x y : ByteArray} {i : Int} (h : r = none) (hb : Below w.heap.size w w') : PmR l r w (.returned (.tuple #[.agg #[.string x, .string y], .int .i64 i, .bool false])) w' := by
  subst h; exact ⟨⟨x, y, i, rfl⟩, hb⟩
theorem pm_yes {l : List UInt8} {r : Option (Par × List UInt8)} {w w' : World} {x y R : List UInt8} {i : Int} (h : r = some ((x, y), R)) (hi : i = ((l.length - R.length : Nat) : Int)) (hb : Below w.heap.size w w') : PmR l r w (.returned (.tuple #[.agg #[.string (str x), .string (str y)], .int .i64 i, .bool true])) w' := by
  subst h; subst hi; exact ⟨rfl, hb⟩
theorem prm_none1 {l : List UInt8} {a : Nat} (h : endW sgn l a = a) : prm (l.drop a) = none := by
  have : (l.drop a).takeWhile sgn = [] := by
    unfold endW at h
    exact List.eq_nil_of_length_eq_zero (by omega)
  unfold prm
  rw [if_pos this]
theorem prm_form {l : List UInt8} {a : Nat} (h : ¬ endW sgn l a = a) : prm (l.drop a) = if (l.drop (endW sgn l a)).head? = some 61 then (val (l.drop (endW sgn l a)).tail).map fun p => ((lwr ((l.drop a).takeWhile sgn), p.1), p.2) else none := by
  have : ¬ (l.drop a).takeWhile sgn = [] := by
    intro e
    unfold endW at h
    rw [e] at h
    exact h rfl
  unfold prm
  rw [if_neg this, drop_end]
theorem val_tok {l : List UInt8} {b : Nat} (h : ¬ (l.drop b).head? = some 34) : val (l.drop b) = if endW sgn l b = b then none else some ((l.drop b).takeWhile sgn, l.drop (endW sgn l b)) := by
  unfold val
  rw [if_neg h, drop_end]
  by_cases e : endW sgn l b = b
  · have : (l.drop b).takeWhile sgn = [] := by
      unfold endW at e
      exact List.eq_nil_of_length_eq_zero (by omega)
    rw [if_pos this, if_pos e]
  · have : ¬ (l.drop b).takeWhile sgn = [] := by
      intro h0
      unfold endW at e
      rw [h0] at e
      exact e rfl
    rw [if_neg this, if_neg e]
theorem val_quo {l : List UInt8} {b : Nat} (h : (l.drop b).head? = some 34) : val (l.drop b) = qtd (l.drop (b + 1)) := by
  unfold val
  rw [if_pos h, List.tail_drop]
theorem head_at {l : List UInt8} {b : Nat} (h : b < l.length) : (l.drop b).head? = some l[b] := by
  rw [List.head?_drop, List.getElem?_eq_getElem h]
theorem head_out {l : List UInt8} {b : Nat} (h : ¬ b < l.length) : (l.drop b).head? = none := by
  rw [List.head?_drop, List.getElem?_eq_none (by omega)]
set_option maxRecDepth 100000 in
set_option maxHeartbeats 8000000 in
theorem param_any (l : List UInt8) (a : Nat) (w : World) (hs : l.length ≤ 100000) (ha : a ≤ l.length) : Calls Tryz.prog 52 #[.string (str l), .int .i64 (a : Int)] w fun e w' => PmR l (prm (l.drop a)) w e w' := by
  have HT : Hid (∀ (a : Nat) (w : World), a ≤ l.length → Calls Tryz.prog 50 #[.string (str l), .int .i64 (a : Int)] w fun e w' => e = .returned (.int .i64 (endW sgn l a : Int)) ∧ w' = w) := Lib.hid fun a w h => token_str l a w (by unfold maxLen; omega) h
  have HQ : Hid (∀ (a : Nat) (w : World), a < l.length → Calls Tryz.prog 90 #[.string (str l), .int .i64 (a : Int)] w fun e w' => QR l (qtd (l.drop (a + 1))) w e w') := Lib.hid fun a w h => quoted_any l a w hs h
  have HLW : Hid (∀ (x : List UInt8) (w : World), x.length ≤ l.length → Calls Tryz.prog 51 #[.string (str x)] w fun e w' => RetS (lwr x) w e w') := Lib.hid fun x w h => rlower_str x w (by unfold maxLen; omega)
  have HSL : Hid (∀ (x y : Nat), x ≤ y → y ≤ l.length → ∀ w0 : World, (Instr.slice 9 (.string (str l)) (some (.int .i64 (x : Int))) (some (.int .i64 (y : Int))) none).run Tryz.prog w0 = .ok (.string (str ((l.drop x).take (y - x)))) w0) := Lib.hid fun x y h1 h2 w0 => slice_law (str l) x y h1 (by rw [str_size]; exact h2) (str_list l) rfl w0
  have hge := endW_ge sgn l a
  have hle := endW_le (p := sgn) ha
  have HS1 := Lib.hid (slice_end sgn l a)
  have HP1 := Lib.hid fun h => prm_none1 (l := l) (a := a) h
  have HP2 := Lib.hid fun h => prm_form (l := l) (a := a) h
  obtain ⟨r, hr⟩ : ∃ r, prm (l.drop a) = r := ⟨_, rfl⟩
  have HTa := Lib.hid fun w => HT.out a w ha
  obtain ⟨en, hen⟩ : ∃ en, endW sgn l a = en := ⟨_, rfl⟩
  rw [hen] at hge hle HS1 HP1 HP2 HTa
  rw [hr] at HP1 HP2 ⊢
  clear hr hen
  obtain ⟨s, hs'⟩ : ∃ s, str l = s := ⟨_, rfl⟩
  have hsz : s.size = l.length := by rw [← hs', str_size]
  have HL : Hid (s.data.toList = l) := Lib.hid (by rw [← hs', str_list])
  have HSZ := Lib.hid hsz
  have hs6 : s.size ≤ 100000 := by omega
  have has : a ≤ s.size := by omega
  have hes : en ≤ s.size := by omega
  rw [hs'] at HT HTa HQ HSL ⊢
  have HB0 : Hid (Below w.heap.size w (w.alloc (.cells #[.string ⟨#[]⟩, .string ⟨#[]⟩] 92))) := Lib.hid ((Below.refl _ w).alloc (Nat.le_refl _) _)
  have hk0 := Lib.hid (Blk.new w #[.string ⟨#[]⟩, .string ⟨#[]⟩] 92)
  clear hs' hsz hs ha hle
  by_cases h1 : en = a
  · have HN := Lib.hid (HP1.out h1)
    have d1 : ((en : Int) == (a : Int)) = true := by rw [h1]; simp
    clear h1 HP1 HP2
    go_enter Tryz.func52, Tryz.ntmps52
    go_wp2_with (go_at_call 50; refine (HTa.out _).mono ?_; rintro _ w9 ⟨rfl, hw9⟩; subst w9; clear HTa)
    refine bodyPost_ret (v := .tuple #[.agg #[.string ⟨#[]⟩, .string ⟨#[]⟩], .int .i64 0, .bool false]) ?_ rfl (pm_no HN.out HB0.out)
    rw [results_cell_tmp2 (p := 4) (u := 5) (v := 6) (ty := 92) rfl]
    have hl := load48 hk0.out
    simp [asAddr, hl]
  have HP3 := Lib.hid (HP2.out h1)
  have d1 : ((en : Int) == (a : Int)) = false := by
    have : ¬ (en : Int) = (a : Int) := by omega
    simpa using this
  clear HP1 HP2
  by_cases h2 : en < s.size
  · have hel : en < l.length := by have := HSZ.out; omega
    have d2 : decide ((s.size : Int) ≤ (en : Int)) = false := by simp; omega
    have he0 : (0 : Int) ≤ (en : Int) := by omega
    have he3 : (en : Int) < (s.size : Int) := by omega
    have hhd := head_at hel
    have hel2 : l[en] = s[en] := by
      have e := HL.out
      subst e
      rfl
    rw [hel2] at hhd
    rw [hhd, List.tail_drop] at HP3
    obtain ⟨c, hc⟩ : ∃ c, s[en] = c := ⟨_, rfl⟩
    rw [hc] at HP3
    clear hhd hel2
    by_cases h61 : c = 61
    · have d3 : ((c.toNat : Int) != 61) = false := by subst h61; decide
      have hsl1 := HSL.out a en hge (by omega)
      obtain ⟨X, hX⟩ : ∃ X, (l.drop a).take (en - a) = X := ⟨_, rfl⟩
      have hXl : X.length ≤ l.length := by rw [← hX, List.length_take, List.length_drop]; omega
      have HP4 : Hid (r = (val (l.drop (en + 1))).map fun p => ((lwr X, p.1), p.2)) := Lib.hid (by
        rw [HP3.out, if_pos (by rw [h61]), ← HS1.out, hX])
      have HL1 := Lib.hid fun w => HLW.out X w hXl
      rw [hX] at hsl1
      obtain ⟨nm, hnm⟩ : ∃ nm, lwr X = nm := ⟨_, rfl⟩
      rw [hnm] at HP4 HL1
      clear h61 hX hnm HP3 HS1 hXl HLW
      by_cases hq : (l.drop (en + 1)).head? = some 34
      · have hb1s : en + 1 < s.size := by
          rcases Nat.lt_or_ge (en + 1) s.size with h | h
          · exact h
          · rw [head_out (by have := HSZ.out; omega)] at hq; cases hq
        have hb1l : en + 1 < l.length := by have := HSZ.out; omega
        have hf0 : (0 : Int) ≤ (en : Int) + 1 := by omega
        have hf3 : (en : Int) + 1 < (s.size : Int) := by omega
        have d4 : decide ((en : Int) + 1 < (s.size : Int)) = true := by simpa using hf3
        have hs34 : s[en + 1] = 34 := by
          rw [head_at hb1l] at hq
          have : l[en + 1] = s[en + 1] := by
            have e := HL.out
            subst e
            rfl
          rw [← this]; exact Option.some.inj hq
        have d5 : ((s[en + 1].toNat : Int) == 34) = true := by rw [hs34]; decide
        rw [val_quo hq] at HP4
        have HQ1 := Lib.hid fun w => HQ.out (en + 1) w hb1l
        obtain ⟨r2, hr2⟩ : ∃ r2, qtd (l.drop (en + 1 + 1)) = r2 := ⟨_, rfl⟩
        rw [hr2] at HP4 HQ1
        clear hr2 hq hs34 HQ HT HSL hel
        cases r2 with
        | none =>
          have HN : Hid (r = none) := Lib.hid (by rw [HP4.out]; rfl)
          have HQ2 : Hid (∀ w, Calls Tryz.prog 90 #[.string s, .int .i64 ((en : Int) + 1)] w fun e w' => e = .returned (.tuple #[.string (str []), .int .i64 0, .bool false]) ∧ Below w.heap.size w w') := HQ1
          clear HQ1 HP4
          go_enter Tryz.func52, Tryz.ntmps52
          go_wp2_with (first
            | (go_at_call 50; refine (HTa.out _).mono ?_; rintro _ w9 ⟨rfl, hw9⟩; subst w9; clear HTa)
            | (go_at_call 51; refine (HL1.out _).mono ?_; rintro _ w1 ⟨rfl, hb1⟩; clear HL1
               have K1 := Lib.hid (hk0.out.below hb1)
               have B1 := Lib.hid (below_call HB0.out hb1)
               have P1 := Lib.hid (Blk.new w1 #[.string (str nm), .string ⟨#[]⟩] 92)
               have K1a := Lib.hid (K1.out.alloc (.cells #[.string (str nm), .string ⟨#[]⟩] 92))
               have B1a := Lib.hid (below_call B1.out ((Below.refl w1.heap.size w1).alloc (Nat.le_refl _) (.cells #[.string (str nm), .string ⟨#[]⟩] 92)))
               have hz1 := B1.out.size
               have hne := K1.out.lt)
            | (go_at_call 90; refine (HQ2.out _).mono ?_; rintro _ w2 ⟨rfl, hb2⟩; clear HQ2
               have B2 := Lib.hid (below_call B1a.out hb2)
               obtain ⟨x0, x1, x2, x3⟩ := blk2 (P1.out.below hb2)
               have P3 := Lib.hid (Blk.set (P1.out.below hb2) (o := 1) (v := .string (str [])) (ys := #[.string (str nm), .string (str [])]) rfl)
               have K3 := Lib.hid (Blk.set' (a := ⟨w1.heap.size, 1, none⟩) (v := .string (str [])) (K1a.out.below hb2) (Nat.ne_of_lt hne))
               obtain ⟨y0, y1, y2, y3⟩ := blk2 P3.out
               obtain ⟨z0, z1, z2, z3⟩ := blk2 K3.out))
          refine bodyPost_ret (v := .tuple #[.agg #[.string (str nm), .string (str [])], .int .i64 0, .bool false]) ?_ rfl (pm_no HN.out ((B2.out.setCell (p := ⟨w1.heap.size, 1, none⟩) hz1 _).setCell (p := ⟨w.heap.size, 0, none⟩) (Nat.le_refl _) _ |>.setCell (p := ⟨w.heap.size, 1, none⟩) (Nat.le_refl _) _))
          rw [results_cell_tmp2 (p := 4) (u := 5) (v := 6) (ty := 92) rfl]
          have hl := load48 ((K3.out.set (o := 0) (v := .string (str nm)) rfl).set (o := 1) (v := .string (str [])) rfl)
          simp [asAddr, hl]
        | some q =>
          obtain ⟨v, Rr⟩ := q
          have HN : Hid (r = some ((nm, v), Rr)) := Lib.hid (by rw [HP4.out]; rfl)
          obtain ⟨i2, hi2⟩ : ∃ i2 : Nat, l.length - Rr.length = i2 := ⟨_, rfl⟩
          have HI2 := Lib.hid hi2
          have HQ2 : Hid (∀ w, Calls Tryz.prog 90 #[.string s, .int .i64 ((en : Int) + 1)] w fun e w' => e = .returned (.tuple #[.string (str v), .int .i64 (i2 : Int), .bool true]) ∧ Below w.heap.size w w') := Lib.hid fun w => by
            have := HQ1.out w
            unfold QR at this
            simp only [hi2] at this
            exact this
          clear HQ1 HP4 hi2
          go_enter Tryz.func52, Tryz.ntmps52
          go_wp2_with (first
            | (go_at_call 50; refine (HTa.out _).mono ?_; rintro _ w9 ⟨rfl, hw9⟩; subst w9; clear HTa)
            | (go_at_call 51; refine (HL1.out _).mono ?_; rintro _ w1 ⟨rfl, hb1⟩; clear HL1
               have K1 := Lib.hid (hk0.out.below hb1)
               have B1 := Lib.hid (below_call HB0.out hb1)
               have P1 := Lib.hid (Blk.new w1 #[.string (str nm), .string ⟨#[]⟩] 92)
               have K1a := Lib.hid (K1.out.alloc (.cells #[.string (str nm), .string ⟨#[]⟩] 92))
               have B1a := Lib.hid (below_call B1.out ((Below.refl w1.heap.size w1).alloc (Nat.le_refl _) (.cells #[.string (str nm), .string ⟨#[]⟩] 92)))
               have hz1 := B1.out.size
               have hne := K1.out.lt)
            | (go_at_call 90; refine (HQ2.out _).mono ?_; rintro _ w2 ⟨rfl, hb2⟩; clear HQ2
               have B2 := Lib.hid (below_call B1a.out hb2)
               obtain ⟨x0, x1, x2, x3⟩ := blk2 (P1.out.below hb2)
               have P3 := Lib.hid (Blk.set (P1.out.below hb2) (o := 1) (v := .string (str v)) (ys := #[.string (str nm), .string (str v)]) rfl)
               have K3 := Lib.hid (Blk.set' (a := ⟨w1.heap.size, 1, none⟩) (v := .string (str v)) (K1a.out.below hb2) (Nat.ne_of_lt hne))
               obtain ⟨y0, y1, y2, y3⟩ := blk2 P3.out
               obtain ⟨z0, z1, z2, z3⟩ := blk2 K3.out))
          refine bodyPost_ret (v := .tuple #[.agg #[.string (str nm), .string (str v)], .int .i64 (i2 : Int), .bool true]) ?_ rfl (pm_yes HN.out (by rw [HI2.out]) ((B2.out.setCell (p := ⟨w1.heap.size, 1, none⟩) hz1 _).setCell (p := ⟨w.heap.size, 0, none⟩) (Nat.le_refl _) _ |>.setCell (p := ⟨w.heap.size, 1, none⟩) (Nat.le_refl _) _))
          rw [results_cell_tmp2 (p := 4) (u := 5) (v := 6) (ty := 92) rfl]
          have hl := load48 ((K3.out.set (o := 0) (v := .string (str nm)) rfl).set (o := 1) (v := .string (str v)) rfl)
          simp [asAddr, hl]
      · rw [val_tok hq] at HP4
        have hge2 := endW_ge sgn l (en + 1)
        have hle2 := endW_le (p := sgn) (show en + 1 ≤ l.length by omega)
        have HS2 := Lib.hid (slice_end sgn l (en + 1))
        have HTb := Lib.hid fun w => HT.out (en + 1) w (by omega)
        obtain ⟨e2, he2⟩ : ∃ e2, endW sgn l (en + 1) = e2 := ⟨_, rfl⟩
        rw [he2] at hge2 hle2 HP4 HS2 HTb
        have hsl2 := HSL.out (en + 1) e2 hge2 hle2
        rw [HS2.out] at hsl2
        obtain ⟨v, hv⟩ : ∃ v, (l.drop (en + 1)).takeWhile sgn = v := ⟨_, rfl⟩
        rw [hv] at HP4 hsl2
        have he2s : e2 ≤ s.size := by have := HSZ.out; omega
        have HLN : Hid ((l.drop e2).length = l.length - e2) := Lib.hid (by rw [List.length_drop])
        have HE2L : Hid (e2 ≤ l.length) := Lib.hid hle2
        have hz34 : ∀ h : en + 1 < s.size, ((s[en + 1].toNat : Int) == 34) = false := fun h => by
          have hb1l : en + 1 < l.length := by have := HSZ.out; omega
          rw [head_at hb1l] at hq
          have : l[en + 1] = s[en + 1] := by
            have e := HL.out
            subst e
            rfl
          rw [this] at hq
          have h3 : ¬ s[en + 1] = 34 := fun e => hq (by rw [e])
          have : ¬ (s[en + 1].toNat : Int) = 34 := fun e => h3 (u8_lit.1 e)
          simpa using this
        have HZ := Lib.hid hz34
        have HTb2 : Hid (∀ w, Calls Tryz.prog 50 #[.string s, .int .i64 ((en : Int) + 1)] w fun e w' => e = .returned (.int .i64 (e2 : Int)) ∧ w' = w) := HTb
        have hsl3 : ∀ w0 : World, (Instr.slice 9 (.string s) (some (.int .i64 ((en : Int) + 1))) (some (.int .i64 (e2 : Int))) none).run Tryz.prog w0 = .ok (.string (str v)) w0 := hsl2
        clear hz34 he2 hv hq HQ HT HSL hel HTb HS2 hle2 hsl2
        have hf0 : (0 : Int) ≤ (en : Int) + 1 := by omega
        by_cases hgt : e2 = en + 1
        · have d6 : decide ((en : Int) + 1 < (e2 : Int)) = false := by simp; omega
          have HN : Hid (r = none) := Lib.hid (by rw [HP4.out, if_pos hgt]; rfl)
          clear HP4 hgt
          by_cases hb1s : en + 1 < s.size
          · have hf3 : (en : Int) + 1 < (s.size : Int) := by omega
            have d4 : decide ((en : Int) + 1 < (s.size : Int)) = true := by simpa using hf3
            have d5 := HZ.out hb1s
            go_enter Tryz.func52, Tryz.ntmps52
            go_wp2_with (first
              | (go_at_call 50; refine (HTa.out _).mono ?_; rintro _ w9 ⟨rfl, hw9⟩; subst w9; clear HTa)
              | (go_at_call 51; refine (HL1.out _).mono ?_; rintro _ w1 ⟨rfl, hb1⟩; clear HL1
                 have K1 := Lib.hid (hk0.out.below hb1)
                 have B1 := Lib.hid (below_call HB0.out hb1)
                 have P1 := Lib.hid (Blk.new w1 #[.string (str nm), .string ⟨#[]⟩] 92)
                 have K1a := Lib.hid (K1.out.alloc (.cells #[.string (str nm), .string ⟨#[]⟩] 92))
                 have B1a := Lib.hid (below_call B1.out ((Below.refl w1.heap.size w1).alloc (Nat.le_refl _) (.cells #[.string (str nm), .string ⟨#[]⟩] 92)))
                 have hz1 := B1.out.size
                 have hne := K1.out.lt)
              | (go_at_call 50; refine (HTb2.out _).mono ?_; rintro _ w9 ⟨rfl, hw9⟩; subst w9; clear HTb2
                 have B3 := Lib.hid ((((B1.out.setCell (p := ⟨w.heap.size, 0, none⟩) (Nat.le_refl _) (.string (str nm))).setCell (p := ⟨w.heap.size, 1, none⟩) (Nat.le_refl _) (.string (str v))).alloc (by simpa [World.setCell] using hz1) (.cells #[.string (str nm), .string (str v)] 92)))
                 obtain ⟨z0, z1, z2, z3⟩ := blk2 K1.out))
            refine bodyPost_ret (v := .tuple #[.agg #[.string (str nm), .string (str v)], .int .i64 (e2 : Int), .bool false]) ?_ rfl (pm_no HN.out B3.out)
            rw [results_cell_tmp2 (p := 4) (u := 5) (v := 6) (ty := 92) rfl]
            have hl := load48 (((K1.out.set (o := 0) (v := .string (str nm)) rfl).set (o := 1) (v := .string (str v)) rfl).alloc (.cells #[.string (str nm), .string (str v)] 92))
            simp [asAddr, hl]
          · have d4 : decide ((en : Int) + 1 < (s.size : Int)) = false := by simp; omega
            go_enter Tryz.func52, Tryz.ntmps52
            go_wp2_with (first
              | (go_at_call 50; refine (HTa.out _).mono ?_; rintro _ w9 ⟨rfl, hw9⟩; subst w9; clear HTa)
              | (go_at_call 51; refine (HL1.out _).mono ?_; rintro _ w1 ⟨rfl, hb1⟩; clear HL1
                 have K1 := Lib.hid (hk0.out.below hb1)
                 have B1 := Lib.hid (below_call HB0.out hb1)
                 have P1 := Lib.hid (Blk.new w1 #[.string (str nm), .string ⟨#[]⟩] 92)
                 have K1a := Lib.hid (K1.out.alloc (.cells #[.string (str nm), .string ⟨#[]⟩] 92))
                 have B1a := Lib.hid (below_call B1.out ((Below.refl w1.heap.size w1).alloc (Nat.le_refl _) (.cells #[.string (str nm), .string ⟨#[]⟩] 92)))
                 have hz1 := B1.out.size
                 have hne := K1.out.lt)
              | (go_at_call 50; refine (HTb2.out _).mono ?_; rintro _ w9 ⟨rfl, hw9⟩; subst w9; clear HTb2
                 have B3 := Lib.hid ((((B1.out.setCell (p := ⟨w.heap.size, 0, none⟩) (Nat.le_refl _) (.string (str nm))).setCell (p := ⟨w.heap.size, 1, none⟩) (Nat.le_refl _) (.string (str v))).alloc (by simpa [World.setCell] using hz1) (.cells #[.string (str nm), .string (str v)] 92)))
                 obtain ⟨z0, z1, z2, z3⟩ := blk2 K1.out))
            refine bodyPost_ret (v := .tuple #[.agg #[.string (str nm), .string (str v)], .int .i64 (e2 : Int), .bool false]) ?_ rfl (pm_no HN.out B3.out)
            rw [results_cell_tmp2 (p := 4) (u := 5) (v := 6) (ty := 92) rfl]
            have hl := load48 (((K1.out.set (o := 0) (v := .string (str nm)) rfl).set (o := 1) (v := .string (str v)) rfl).alloc (.cells #[.string (str nm), .string (str v)] 92))
            simp [asAddr, hl]
        · have d6 : decide ((en : Int) + 1 < (e2 : Int)) = true := by simp; omega
          have HN : Hid (r = some ((nm, v), l.drop e2)) := Lib.hid (by rw [HP4.out, if_neg hgt]; rfl)
          clear HP4 hgt
          by_cases hb1s : en + 1 < s.size
          · have hf3 : (en : Int) + 1 < (s.size : Int) := by omega
            have d4 : decide ((en : Int) + 1 < (s.size : Int)) = true := by simpa using hf3
            have d5 := HZ.out hb1s
            go_enter Tryz.func52, Tryz.ntmps52
            go_wp2_with (first
              | (go_at_call 50; refine (HTa.out _).mono ?_; rintro _ w9 ⟨rfl, hw9⟩; subst w9; clear HTa)
              | (go_at_call 51; refine (HL1.out _).mono ?_; rintro _ w1 ⟨rfl, hb1⟩; clear HL1
                 have K1 := Lib.hid (hk0.out.below hb1)
                 have B1 := Lib.hid (below_call HB0.out hb1)
                 have P1 := Lib.hid (Blk.new w1 #[.string (str nm), .string ⟨#[]⟩] 92)
                 have K1a := Lib.hid (K1.out.alloc (.cells #[.string (str nm), .string ⟨#[]⟩] 92))
                 have B1a := Lib.hid (below_call B1.out ((Below.refl w1.heap.size w1).alloc (Nat.le_refl _) (.cells #[.string (str nm), .string ⟨#[]⟩] 92)))
                 have hz1 := B1.out.size
                 have hne := K1.out.lt)
              | (go_at_call 50; refine (HTb2.out _).mono ?_; rintro _ w9 ⟨rfl, hw9⟩; subst w9; clear HTb2
                 have B3 := Lib.hid ((((B1.out.setCell (p := ⟨w.heap.size, 0, none⟩) (Nat.le_refl _) (.string (str nm))).setCell (p := ⟨w.heap.size, 1, none⟩) (Nat.le_refl _) (.string (str v))).alloc (by simpa [World.setCell] using hz1) (.cells #[.string (str nm), .string (str v)] 92)))
                 obtain ⟨z0, z1, z2, z3⟩ := blk2 K1.out))
            refine bodyPost_ret (v := .tuple #[.agg #[.string (str nm), .string (str v)], .int .i64 (e2 : Int), .bool true]) ?_ rfl (pm_yes (i := (e2 : Int)) HN.out (by rw [HLN.out]; have := HE2L.out; omega) B3.out)
            rw [results_cell_tmp2 (p := 4) (u := 5) (v := 6) (ty := 92) rfl]
            have hl := load48 (((K1.out.set (o := 0) (v := .string (str nm)) rfl).set (o := 1) (v := .string (str v)) rfl).alloc (.cells #[.string (str nm), .string (str v)] 92))
            simp [asAddr, hl]
          · have d4 : decide ((en : Int) + 1 < (s.size : Int)) = false := by simp; omega
            go_enter Tryz.func52, Tryz.ntmps52
            go_wp2_with (first
              | (go_at_call 50; refine (HTa.out _).mono ?_; rintro _ w9 ⟨rfl, hw9⟩; subst w9; clear HTa)
              | (go_at_call 51; refine (HL1.out _).mono ?_; rintro _ w1 ⟨rfl, hb1⟩; clear HL1
                 have K1 := Lib.hid (hk0.out.below hb1)
                 have B1 := Lib.hid (below_call HB0.out hb1)
                 have P1 := Lib.hid (Blk.new w1 #[.string (str nm), .string ⟨#[]⟩] 92)
                 have K1a := Lib.hid (K1.out.alloc (.cells #[.string (str nm), .string ⟨#[]⟩] 92))
                 have B1a := Lib.hid (below_call B1.out ((Below.refl w1.heap.size w1).alloc (Nat.le_refl _) (.cells #[.string (str nm), .string ⟨#[]⟩] 92)))
                 have hz1 := B1.out.size
                 have hne := K1.out.lt)
              | (go_at_call 50; refine (HTb2.out _).mono ?_; rintro _ w9 ⟨rfl, hw9⟩; subst w9; clear HTb2
                 have B3 := Lib.hid ((((B1.out.setCell (p := ⟨w.heap.size, 0, none⟩) (Nat.le_refl _) (.string (str nm))).setCell (p := ⟨w.heap.size, 1, none⟩) (Nat.le_refl _) (.string (str v))).alloc (by simpa [World.setCell] using hz1) (.cells #[.string (str nm), .string (str v)] 92)))
                 obtain ⟨z0, z1, z2, z3⟩ := blk2 K1.out))
            refine bodyPost_ret (v := .tuple #[.agg #[.string (str nm), .string (str v)], .int .i64 (e2 : Int), .bool true]) ?_ rfl (pm_yes (i := (e2 : Int)) HN.out (by rw [HLN.out]; have := HE2L.out; omega) B3.out)
            rw [results_cell_tmp2 (p := 4) (u := 5) (v := 6) (ty := 92) rfl]
            have hl := load48 (((K1.out.set (o := 0) (v := .string (str nm)) rfl).set (o := 1) (v := .string (str v)) rfl).alloc (.cells #[.string (str nm), .string (str v)] 92))
            simp [asAddr, hl]
    · have d3 : ((c.toNat : Int) != 61) = true := by
        have : ¬ (c.toNat : Int) = 61 := fun h => h61 (u8_lit.1 h)
        simpa using this
      have HN : Hid (r = none) := Lib.hid (by rw [HP3.out, if_neg (by simpa using h61)])
      clear h61 HP3 hel
      go_enter Tryz.func52, Tryz.ntmps52
      go_wp2_with (go_at_call 50; refine (HTa.out _).mono ?_; rintro _ w9 ⟨rfl, hw9⟩; subst w9; clear HTa)
      refine bodyPost_ret (v := .tuple #[.agg #[.string ⟨#[]⟩, .string ⟨#[]⟩], .int .i64 0, .bool false]) ?_ rfl (pm_no HN.out HB0.out)
      rw [results_cell_tmp2 (p := 4) (u := 5) (v := 6) (ty := 92) rfl]
      have hl := load48 hk0.out
      simp [asAddr, hl]
  · have d2 : decide ((s.size : Int) ≤ (en : Int)) = true := by simp; omega
    have HN : Hid (r = none) := Lib.hid (by rw [HP3.out, head_out (by have := HSZ.out; omega), if_neg (by simp)])
    clear HP3
    go_enter Tryz.func52, Tryz.ntmps52
    go_wp2_with (go_at_call 50; refine (HTa.out _).mono ?_; rintro _ w9 ⟨rfl, hw9⟩; subst w9; clear HTa)
    refine bodyPost_ret (v := .tuple #[.agg #[.string ⟨#[]⟩, .string ⟨#[]⟩], .int .i64 0, .bool false]) ?_ rfl (pm_no HN.out HB0.out)
    rw [results_cell_tmp2 (p := 4) (u := 5) (v := 6) (ty := 92) rfl]
    have hl := load48 hk0.out
    simp [asAddr, hl]
end Go.Proofs.YtppabkllconkjaaGreatDoor.Med
/- The contract of the document's own Parse. -/
namespace Go.Proofs.YtppabkllconkjaaGreatDoor.Med
open Go.RowKit
set_option linter.unusedVariables false
set_option linter.unusedSimpArgs false
set_option maxRecDepth 100000
open Lab (RetS ret_str str str_size str_list str_eta str_inj u8v st_ixb info5 info_parts)
/-- m.Params = append(m.Params, p): what it leaves. -/
theorem appM {W w1 : World} {n₀ M n : Nat} {T v v1 : Value} {xs ys : List Value} {tmp : Obj} (kb : Blk W M #[T, v] 57) (hM : n₀ ≤ M) (hn : n₀ ≤ W.heap.size) (own : W.ownsRow n₀ 92 2 v n xs)
    (hown : w1.ownsRow n₀ 92 2 v1 (n + 1) ys) (hg : (W.alloc tmp).grownBy w1 v.ownBlock) :
    (w1.cell? ⟨M, 1, none⟩ = some v ∧ w1.frozen? ⟨M, 1, none⟩ = false) ∧ Blk (w1.setCell ⟨M, 1, none⟩ v1) M #[T, v1] 57 ∧ (w1.setCell ⟨M, 1, none⟩ v1).ownsRow n₀ 92 2 v1 (n + 1) ys ∧ Below n₀ W (w1.setCell ⟨M, 1, none⟩ v1) ∧
      ∀ j C Tj, Tj ≠ 92 → j ≠ M → Blk W j C Tj → Blk (w1.setCell ⟨M, 1, none⟩ v1) j C Tj := by
  have b1 : Blk w1 M #[T, v] 57 := blk_kept (kb.alloc tmp) hg (not_row (kb.alloc tmp) (by decide) (own.alloc tmp))
  refine ⟨⟨by rw [b1.cell]; rfl, b1.froz 1⟩, b1.set rfl, own_set hown b1 (by decide) _ _, ?_, fun j C Tj hT hj hb => ?_⟩
  · exact (((Below.refl n₀ W).alloc hn tmp).grown hg (by simp; omega) (fun k e => (World.ownsRow.lt own k e).1)).setCell hM _
  · exact Blk.set' (blk_kept (hb.alloc tmp) hg (not_row (hb.alloc tmp) hT (own.alloc tmp))) (by simpa using hj)
theorem pe_no {r : Option Med} {w w' : World} (h : r = none) (hb : Below w.heap.size w w') : ParseE r w (.returned (.tuple #[.agg #[.string ⟨#[]⟩, .slice none 0 0], .int .i64 70])) w' := by
  subst h; exact ⟨.slice none 0 0, rfl, prs_nil _, hb⟩
theorem pe_yes {r : Option Med} {w w' : World} {ty : List UInt8} {ps : List Par} {u : Value} (h : r = some (ty, ps)) (hp : Prs w' u ps) (hb : Below w.heap.size w w') : ParseE r w (.returned (.tuple #[.agg #[.string (str ty), u], .int .i64 0])) w' := by
  subst h; exact ⟨u, rfl, hp, hb⟩
set_option maxRecDepth 100000 in
set_option maxHeartbeats 8000000 in
theorem rparse_any (l : List UInt8) (w : World) (hs : l.length ≤ 100000) : Calls Tryz.prog 25 #[.string (str l)] w fun e w' => ParseE (parse l) w e w' := by
  have HT : Hid (∀ (a : Nat) (w : World), a ≤ l.length → Calls Tryz.prog 50 #[.string (str l), .int .i64 (a : Int)] w fun e w' => e = .returned (.int .i64 (endW sgn l a : Int)) ∧ w' = w) := Lib.hid fun a w h => token_str l a w (by unfold maxLen; omega) h
  have HK : Hid (∀ (a : Nat) (w : World), a ≤ l.length → Calls Tryz.prog 49 #[.string (str l), .int .i64 (a : Int)] w fun e w' => e = .returned (.int .i64 (endW blk l a : Int)) ∧ w' = w) := Lib.hid fun a w h => blanks_str l a w (by unfold maxLen; omega) h
  have HPM : Hid (∀ (a : Nat) (w : World), a ≤ l.length → Calls Tryz.prog 52 #[.string (str l), .int .i64 (a : Int)] w fun e w' => PmR l (prm (l.drop a)) w e w') := Lib.hid fun a w h => param_any l a w hs h
  have HLW : Hid (∀ (x : List UInt8) (w : World), x.length ≤ l.length → Calls Tryz.prog 51 #[.string (str x)] w fun e w' => RetS (lwr x) w e w') := Lib.hid fun x w h => rlower_str x w (by unfold maxLen; omega)
  have HSL : Hid (∀ (x y : Nat), x ≤ y → y ≤ l.length → ∀ w0 : World, (Instr.slice 9 (.string (str l)) (some (.int .i64 (x : Int))) (some (.int .i64 (y : Int))) none).run Tryz.prog w0 = .ok (.string (str ((l.drop x).take (y - x)))) w0) := Lib.hid fun x y h1 h2 w0 => slice_law (str l) x y h1 (by rw [str_size]; exact h2) (str_list l) rfl w0
  have HBa := Lib.hid fun w => HK.out 0 w (Nat.zero_le _)
  have ht1 := endW_le (p := blk) (Nat.zero_le l.length)
  obtain ⟨t, ht⟩ : ∃ t, endW blk l 0 = t := ⟨_, rfl⟩
  rw [ht] at HBa ht1
  have HTa := Lib.hid fun w => HT.out t w ht1
  have ha1 := endW_ge sgn l t
  have ha2 := endW_le (p := sgn) ht1
  obtain ⟨a, ha⟩ : ∃ a, endW sgn l t = a := ⟨_, rfl⟩
  rw [ha] at HTa ha1 ha2
  obtain ⟨b, hb⟩ : ∃ b, endW sgn l (a + 1) = b := ⟨_, rfl⟩
  have HPI := Lib.hid (parse_idx ht ha hb)
  obtain ⟨r, hr⟩ : ∃ r, parse l = r := ⟨_, rfl⟩
  rw [hr] at HPI
  rw [hr]
  have HBE := Lib.hid hb
  clear hr ht ha hb
  obtain ⟨s, hs'⟩ : ∃ s, str l = s := ⟨_, rfl⟩
  have hsz : s.size = l.length := by rw [← hs', str_size]
  have HL : Hid (s.data.toList = l) := Lib.hid (by rw [← hs', str_list])
  have HSZ := Lib.hid hsz
  have hs6 : s.size ≤ 100000 := by omega
  have hts : t ≤ s.size := by omega
  have has : a ≤ s.size := by omega
  have HEL : Hid (∀ (k : Nat) (h : k < s.size), (l.drop k).head? = some s[k]) := Lib.hid (by
    intro k h
    have hk : k < l.length := by omega
    rw [head_at hk]
    have e := HL.out
    subst e
    rfl)
  rw [hs'] at HT HTa HK HBa HPM HSL ⊢
  have HB0 : Hid (Below w.heap.size w (w.alloc (.cells #[.string ⟨#[]⟩, .slice none 0 0] 57))) := Lib.hid ((Below.refl _ w).alloc (Nat.le_refl _) _)
  have hk0 := Lib.hid (Blk.new w #[.string ⟨#[]⟩, .slice none 0 0] 57)
  clear hs' hsz hs ht1 ha2
  by_cases h1 : a = t
  · have HN : Hid (r = none) := Lib.hid (by rw [HPI.out, if_pos h1])
    have d1 : ((a : Int) == (t : Int)) = true := by rw [h1]; simp
    clear h1 HPI
    go_enter Tryz.func25, Tryz.ntmps25
    go_wp2_with (first
      | (go_at_call 49; refine (HBa.out _).mono ?_; rintro _ w9 ⟨rfl, hw9⟩; subst w9; clear HBa)
      | (go_at_call 50; refine (HTa.out _).mono ?_; rintro _ w9 ⟨rfl, hw9⟩; subst w9; clear HTa))
    refine bodyPost_ret (v := .tuple #[.agg #[.string ⟨#[]⟩, .slice none 0 0], .int .i64 70]) ?_ rfl (pe_no HN.out HB0.out)
    rw [results_cell_tmp (p := 2) (u := 3) (ty := 57) rfl]
    have hl := load25 hk0.out
    simp [asAddr, hl]
  have HP2 := Lib.hid (HPI.out.trans (if_neg h1))
  have d1 : ((a : Int) == (t : Int)) = false := by
    have : ¬ (a : Int) = (t : Int) := by omega
    simpa using this
  clear HPI
  by_cases h2 : a < s.size
  · have d2 : decide ((s.size : Int) ≤ (a : Int)) = false := by simp; omega
    have he0 : (0 : Int) ≤ (a : Int) := by omega
    have he3 : (a : Int) < (s.size : Int) := by omega
    have hhd := HEL.out a h2
    obtain ⟨c, hc⟩ : ∃ c, s[a] = c := ⟨_, rfl⟩
    rw [hc] at hhd
    by_cases h47 : c = 47
    · have d3 : ((c.toNat : Int) != 47) = false := by subst h47; decide
      have HP3 := Lib.hid (HP2.out.trans (if_pos (by rw [hhd, h47])))
      have hal : a + 1 ≤ l.length := by have := HSZ.out; omega
      have HTb : Hid (∀ w, Calls Tryz.prog 50 #[.string s, .int .i64 ((a : Int) + 1)] w fun e w' => e = .returned (.int .i64 (b : Int)) ∧ w' = w) := Lib.hid fun w => by
        have := HT.out (a + 1) w hal
        rwa [HBE.out] at this
      have hb1 : a + 1 ≤ b := by rw [← HBE.out]; exact endW_ge _ _ _
      have hb2 : b ≤ l.length := by rw [← HBE.out]; exact endW_le hal
      clear h47 hhd HP2 hal
      by_cases h4 : b = a + 1
      · have HN : Hid (r = none) := Lib.hid (by rw [HP3.out, if_pos h4])
        have d4 : ((b : Int) == (a : Int) + 1) = true := by rw [h4]; simp
        clear HP3 h4
        go_enter Tryz.func25, Tryz.ntmps25
        go_wp2_with (first
          | (go_at_call 49; refine (HBa.out _).mono ?_; rintro _ w9 ⟨rfl, hw9⟩; subst w9; clear HBa)
          | (go_at_call 50; refine (HTa.out _).mono ?_; rintro _ w9 ⟨rfl, hw9⟩; subst w9; clear HTa)
          | (go_at_call 50; refine (HTb.out _).mono ?_; rintro _ w9 ⟨rfl, hw9⟩; subst w9; clear HTb))
        refine bodyPost_ret (v := .tuple #[.agg #[.string ⟨#[]⟩, .slice none 0 0], .int .i64 70]) ?_ rfl (pe_no HN.out HB0.out)
        rw [results_cell_tmp (p := 2) (u := 3) (ty := 57) rfl]
        have hl := load25 hk0.out
        simp [asAddr, hl]
      · have HP4 := Lib.hid (HP3.out.trans (if_neg h4))
        have d4 : ((b : Int) == (a : Int) + 1) = false := by
          have : ¬ (b : Int) = (a : Int) + 1 := by omega
          simpa using this
        have hsl1 := HSL.out t b (by omega) hb2
        obtain ⟨X, hX⟩ : ∃ X, (l.drop t).take (b - t) = X := ⟨_, rfl⟩
        have hXl : X.length ≤ l.length := by rw [← hX, List.length_take, List.length_drop]; omega
        have HL1 := Lib.hid fun w => HLW.out X w hXl
        rw [hX] at hsl1 HP4
        obtain ⟨ty, hty⟩ : ∃ ty, lwr X = ty := ⟨_, rfl⟩
        rw [hty] at HL1 HP4
        have HKb := Lib.hid fun w => HK.out b w hb2
        have hk1 := endW_le (p := blk) hb2
        obtain ⟨k0, hk0'⟩ : ∃ k0, endW blk l b = k0 := ⟨_, rfl⟩
        rw [hk0'] at HKb HP4 hk1
        have hks : k0 ≤ s.size := by have := HSZ.out; omega
        clear hX hXl hty hk0' h4 HP3 HLW HSL HBE hk1 hb2
        go_enter Tryz.func25, Tryz.ntmps25
        go_wp2_with (first
          | (go_at_call 49; refine (HBa.out _).mono ?_; rintro _ w9 ⟨rfl, hw9⟩; subst w9; clear HBa)
          | (go_at_call 50; refine (HTa.out _).mono ?_; rintro _ w9 ⟨rfl, hw9⟩; subst w9; clear HTa)
          | (go_at_call 50; refine (HTb.out _).mono ?_; rintro _ w9 ⟨rfl, hw9⟩; subst w9; clear HTb)
          | (go_at_call 51; refine (HL1.out _).mono ?_; rintro _ w1 ⟨rfl, hb1'⟩; clear HL1
             have K1 := Lib.hid (hk0.out.below hb1')
             have B1 := Lib.hid (below_call HB0.out hb1'))
          | (go_at_call 49; refine (HKb.out _).mono ?_; rintro _ w9 ⟨rfl, hw9⟩; subst w9; clear HKb))
        go_loopg [4] (s.size + 1 - k0) (fun g q4 wr => ∃ (k n : Nat) (v : Value) (acc : List Par), k + g = s.size + 1 ∧ q4 = .int .i64 (k : Int) ∧ k ≤ s.size ∧ n ≤ k ∧ Hid (acc.length = n) ∧ Hid (r = (rst (l.drop k)).map fun q => (ty, acc ++ q)) ∧ Hid (Blk wr w1.heap.size #[.string (str ty), v] 57) ∧ Hid (wr.ownsRow w.heap.size 92 2 v n (cellsP acc)) ∧ Hid (Blk wr w.heap.size #[.string ⟨#[]⟩, .slice none 0 0] 57) ∧ Hid (Below w.heap.size w wr))
        case atStart =>
          exact ⟨k0, 0, .slice none 0 0, [], by omega, rfl, hks, by omega, Lib.hid rfl, Lib.hid (by rw [HP4.out]; cases rst (l.drop k0) <;> simp), Lib.hid (Blk.new w1 _ 57), Lib.hid (World.ownsRow_nil _ _ _ _), Lib.hid (K1.out.alloc _), Lib.hid (B1.out.alloc B1.out.size _)⟩
        case round =>
          obtain ⟨k, n, v, acc, hkg, rfl, hk7, hnk, HN, HR, HM, HO, HKR, HB⟩ := hrel
          have hMR : w.heap.size < w1.heap.size := K1.out.lt
          obtain ⟨i0, hi, hz0, hz1, hz2⟩ := info_parts info48
          by_cases hlt : k < s.size
          · have hk0 : (0 : Int) ≤ (k : Int) := by omega
            have hk3 : (k : Int) < (s.size : Int) := by omega
            have hhd := HEL.out k hlt
            obtain ⟨c, hc⟩ : ∃ c, s[k] = c := ⟨_, rfl⟩
            rw [hc] at hhd
            have hdr : l.drop k = c :: l.drop (k + 1) := by
              cases hx : l.drop k with
              | nil => rw [hx] at hhd; cases hhd
              | cons c' u =>
                rw [hx] at hhd
                cases hhd
                have : l.drop (k + 1) = (l.drop k).tail := by rw [List.tail_drop]
                rw [this, hx]; rfl
            rw [hdr] at HR
            clear hdr hhd
            by_cases h59 : c = 59
            · have d1 : ((c.toNat : Int) != 59) = false := by subst h59; decide
              rw [h59] at HR
              have hkl : k + 1 ≤ l.length := by have := HSZ.out; omega
              have HKc : Hid (∀ w, Calls Tryz.prog 49 #[.string s, .int .i64 ((k : Int) + 1)] w fun e w' => e = .returned (.int .i64 (endW blk l (k + 1) : Int)) ∧ w' = w) := Lib.hid fun w => HK.out (k + 1) w hkl
              have hg1 := endW_ge blk l (k + 1)
              have hg2 := endW_le (p := blk) hkl
              have HDE := Lib.hid (drop_end blk l (k + 1))
              obtain ⟨k2, hk2⟩ : ∃ k2, endW blk l (k + 1) = k2 := ⟨_, rfl⟩
              rw [hk2] at HKc hg1 hg2 HDE
              have hk2s : k2 ≤ s.size := by have := HSZ.out; omega
              clear h59 hk2 hkl
              by_cases h2s : k2 < s.size
              · have hj0 : (0 : Int) ≤ (k2 : Int) := by omega
                have hj3 : (k2 : Int) < (s.size : Int) := by omega
                have hj4 : decide ((k2 : Int) < (s.size : Int)) = true := by simp; omega
                have hhd2 := HEL.out k2 h2s
                obtain ⟨d, hd⟩ : ∃ d, s[k2] = d := ⟨_, rfl⟩
                rw [hd] at hhd2
                by_cases hd59 : d = 59
                · have d2 : ((d.toNat : Int) != 59) = false := by subst hd59; decide
                  have HR2 : Hid (r = (rst (l.drop k2)).map fun q => (ty, acc ++ q)) := Lib.hid (by
                    rw [HR.out, rst_empty (.inr (by rw [← HDE.out, hhd2, hd59])), ← HDE.out])
                  clear hd59 hhd2 HR HDE
                  go_wp2_with (first
                    | (go_at_call 49; refine (HKc.out _).mono ?_; rintro _ w9 ⟨rfl, hw9⟩; subst w9; clear HKc))
                  go_roundg (s.size + 1 - k2)
                  case measure => omega
                  case rel => exact ⟨k2, n, v, acc, by omega, rfl, hk2s, by omega, HN, HR2, HM, HO, HKR, HB⟩
                · have d2 : ((d.toNat : Int) != 59) = true := by
                    have : ¬ (d.toNat : Int) = 59 := fun h => hd59 (u8_lit.1 h)
                    simpa using this
                  have hno : ¬ (((l.drop (k + 1)).dropWhile blk).head? = none ∨ ((l.drop (k + 1)).dropWhile blk).head? = some 59) := by
                    rw [← HDE.out, hhd2]
                    rintro (h | h)
                    · cases h
                    · cases h; exact hd59 rfl
                  have HPq := Lib.hid fun w => HPM.out k2 w hg2
                  obtain ⟨r2, hr2⟩ : ∃ r2, prm (l.drop k2) = r2 := ⟨_, rfl⟩
                  rw [hr2] at HPq
                  cases r2 with
                  | none =>
                    have HN2 : Hid (r = none) := Lib.hid (by
                      rw [HR.out, rst_bad hno (by rw [← HDE.out]; exact hr2)]; rfl)
                    have HPq2 : Hid (∀ w, Calls Tryz.prog 52 #[.string s, .int .i64 (k2 : Int)] w fun e w' => (∃ (x y : ByteArray) (i : Int), e = .returned (.tuple #[.agg #[.string x, .string y], .int .i64 i, .bool false])) ∧ Below w.heap.size w w') := HPq
                    clear hd59 hhd2 HR HDE hno hr2 HPq HN
                    go_wp2_with (first
                      | (go_at_call 49; refine (HKc.out _).mono ?_; rintro _ w9 ⟨rfl, hw9⟩; subst w9; clear HKc)
                      | (go_at_call 52; refine (HPq2.out _).mono ?_; rintro _ w2 ⟨⟨x, y, i, rfl⟩, hb2⟩; clear HPq2
                         have K2 := Lib.hid (HKR.out.below hb2)
                         have B2 := Lib.hid (below_call HB.out hb2)
                         obtain ⟨z0, z1, z2, z3⟩ := blk2 K2.out
                         have hne2 := K2.out.lt
                         have B3 := Lib.hid ((((B2.out.setCell (p := ⟨w.heap.size, 0, none⟩) (Nat.le_refl _) (.string ⟨#[]⟩)).setCell (p := ⟨w.heap.size, 1, none⟩) (Nat.le_refl _) (.slice none 0 0)).alloc (by simpa [World.setCell] using B2.out.size) (.cells #[.string x, .string y] 92)))))
                    have HN := HN2
                    refine bodyPost_ret (v := .tuple #[.agg #[.string ⟨#[]⟩, .slice none 0 0], .int .i64 70]) ?_ rfl (pe_no HN.out B3.out)
                    rw [results_cell_tmp (p := 2) (u := 3) (ty := 57) rfl]
                    have hl := load25 (((K2.out.set (o := 0) (v := .string ⟨#[]⟩) rfl).set (o := 1) (v := .slice none 0 0) rfl).alloc (.cells #[.string x, .string y] 92))
                    simp [asAddr, hl]
                  | some q =>
                    obtain ⟨⟨pn, pv⟩, Rr⟩ := q
                    obtain ⟨x, hx⟩ := prm_suf hr2
                    obtain ⟨hsuf, hsl⟩ := suf_at hx
                    have hlen := prm_len hr2
                    simp only [List.length_drop] at hlen
                    simp only at hsuf hsl hlen
                    obtain ⟨n2, hn2⟩ : ∃ n2 : Nat, l.length - Rr.length = n2 := ⟨_, rfl⟩
                    have hn2l : n2 ≤ l.length := by omega
                    have hn2k : k2 < n2 := by omega
                    have HPq2 : Hid (∀ w, Calls Tryz.prog 52 #[.string s, .int .i64 (k2 : Int)] w fun e w' => e = .returned (.tuple #[.agg #[.string (str pn), .string (str pv)], .int .i64 (n2 : Int), .bool true]) ∧ Below w.heap.size w w') := Lib.hid fun w => by
                      have := HPq.out w
                      unfold PmR at this
                      simp only [hn2] at this
                      exact this
                    rw [hn2] at hsuf
                    have HKd := Lib.hid fun w => HK.out n2 w hn2l
                    have hg3 := endW_ge blk l n2
                    have hg4 := endW_le (p := blk) hn2l
                    have HR3 : Hid (r = (rst (l.drop (endW blk l n2))).map fun q => (ty, (acc ++ [(pn, pv)]) ++ q)) := Lib.hid (by
                      rw [HR.out, rst_par (q := ((pn, pv), Rr)) hno (by rw [← HDE.out]; exact hr2), drop_end, hsuf, Option.map_map]
                      congr 1
                      funext q
                      simp)
                    obtain ⟨k3, hk3'⟩ : ∃ k3, endW blk l n2 = k3 := ⟨_, rfl⟩
                    rw [hk3'] at HKd hg3 hg4 HR3
                    have hk3s : k3 ≤ s.size := by have := HSZ.out; omega
                    have hn63 : n + 1 ≤ 200000 := by omega
                    have HN2 : Hid ((acc ++ [(pn, pv)]).length = n + 1) := Lib.hid (by rw [List.length_append, HN.out]; rfl)
                    have HCP : Hid (cellsP acc ++ [.string (str pn), .string (str pv)] = cellsP (acc ++ [(pn, pv)])) := Lib.hid (by rw [cellsP_app]; rfl)
                    clear hd59 hhd2 HR HDE hno hr2 HPq hx hsuf hsl hlen hn2 hk3' hg4 hn2l
                    go_wp2_with (first
                      | (go_at_call 49; refine (HKc.out _).mono ?_; rintro _ w9 ⟨rfl, hw9⟩; subst w9; clear HKc)
                      | (go_at_call 52; refine (HPq2.out _).mono ?_; rintro _ w2 ⟨rfl, hb2⟩; clear HPq2
                         have K2 := Lib.hid ((HKR.out.below hb2).alloc (.cells #[.string (str pn), .string (str pv)] 92))
                         have M2 := Lib.hid ((HM.out.below hb2).alloc (.cells #[.string (str pn), .string (str pv)] 92))
                         have O2 := Lib.hid ((own_below (m := 0) HO.out hb2).alloc (.cells #[.string (str pn), .string (str pv)] 92))
                         have B2 := Lib.hid ((below_call HB.out hb2).alloc (below_call HB.out hb2).size (.cells #[.string (str pn), .string (str pv)] 92))
                         obtain ⟨x0, x1, x2, x3⟩ := blk2 M2.out
                         have hz2' := B2.out.size)
                      | (at_builtin; refine wpList_append_lies _ rfl _ _ _ rfl w.heap.size 92 i0 _ 2 32 Tryz.underlying55 hi hz0 hz1 hz2 rfl (by omega) v n (cellsP acc) rfl (World.ownsRow.alloc O2.out _) ⟨w2.heap.size + 1, 0, none⟩ 1 1 [.string (str pn), .string (str pv)] rfl rfl (by have := World.news_of_block (t := 92) (fr := (0, 0)) (heap_alloc_new (w2.alloc (.cells #[.string (str pn), .string (str pv)] 92)) (.cells #[.string (str pn), .string (str pv)] 92)); simpa using this) (by simp [Value.oneCell']) (by omega) (by unfold maxLen; omega) (by omega) (by simp at hz2' ⊢; omega) (w2.heap.size + 1 + 1) (by simp) ?_; intro g3 cap3 w3 hown3 hgrow3 hat3 hlt3
                         have H := Lib.hid (appM M2.out (Nat.le_of_lt hMR) hz2' O2.out hown3 hgrow3)
                         have c3 := H.out.1.1
                         have f3 := H.out.1.2
                         clear hown3 hgrow3 hat3 hlt3)
                      | (go_at_call 49; refine (HKd.out _).mono ?_; rintro _ w9 ⟨rfl, hw9⟩; subst w9; clear HKd))
                    go_roundg (s.size + 1 - k3)
                    case measure => omega
                    case rel => exact ⟨k3, n + 1, _, acc ++ [(pn, pv)], by omega, rfl, hk3s, by omega, HN2, HR3, Lib.hid H.out.2.1, Lib.hid (by rw [← HCP.out]; exact H.out.2.2.1), Lib.hid (H.out.2.2.2.2 _ _ _ (by decide) (Nat.ne_of_lt hMR) K2.out), Lib.hid (B2.out.trans H.out.2.2.2.1)⟩
              · have hj4 : decide ((k2 : Int) < (s.size : Int)) = false := by simp; omega
                have HR2 : Hid (r = (rst (l.drop k2)).map fun q => (ty, acc ++ q)) := Lib.hid (by
                  rw [HR.out, rst_empty (.inl (by rw [← HDE.out, head_out (by have := HSZ.out; omega)])), ← HDE.out])
                clear HR HDE
                go_wp2_with (first
                  | (go_at_call 49; refine (HKc.out _).mono ?_; rintro _ w9 ⟨rfl, hw9⟩; subst w9; clear HKc))
                go_roundg (s.size + 1 - k2)
                case measure => omega
                case rel => exact ⟨k2, n, v, acc, by omega, rfl, hk2s, by omega, HN, HR2, HM, HO, HKR, HB⟩
            · have d1 : ((c.toNat : Int) != 59) = true := by
                have : ¬ (c.toNat : Int) = 59 := fun h => h59 (u8_lit.1 h)
                simpa using this
              have HN2 : Hid (r = none) := Lib.hid (by rw [HR.out, rst_other h59]; rfl)
              obtain ⟨z0, z1, z2, z3⟩ := blk2 HKR.out
              clear HR h59 HN
              have HN := HN2
              go_wp2_with fail
              refine bodyPost_ret (v := .tuple #[.agg #[.string ⟨#[]⟩, .slice none 0 0], .int .i64 70]) ?_ rfl (pe_no HN.out ((HB.out.setCell (p := ⟨w.heap.size, 0, none⟩) (Nat.le_refl _) _).setCell (p := ⟨w.heap.size, 1, none⟩) (Nat.le_refl _) _))
              rw [results_cell_tmp (p := 2) (u := 3) (ty := 57) rfl]
              have hl := load25 ((HKR.out.set (o := 0) (v := .string ⟨#[]⟩) rfl).set (o := 1) (v := .slice none 0 0) rfl)
              simp [asAddr, hl]
          · have HR2 : Hid (r = some (ty, acc)) := Lib.hid (by
              rw [HR.out, List.drop_eq_nil_of_le (by have := HSZ.out; omega), rst_nil]; simp)
            obtain ⟨p2, cap2, hv⟩ : ∃ p cap, v = .slice p n cap := by
              rcases HO.out.2 with ⟨e, h0⟩ | ⟨g, cap, cur, e, _⟩
              · exact ⟨none, 0, by rw [e, h0]⟩
              · exact ⟨_, cap, e⟩
            rw [hv] at HM HO
            obtain ⟨x0, x1, x2, x3⟩ := blk2 HM.out
            obtain ⟨z0, z1, z2, z3⟩ := blk2 HKR.out
            clear HR hv
            go_wp2_with fail
            refine bodyPost_ret (v := .tuple #[.agg #[.string (str ty), .slice p2 n cap2], .int .i64 0]) ?_ rfl (pe_yes HR2.out (prs_own (base := w.heap.size) (own_set (own_set (by rw [HN.out]; exact HO.out) HKR.out (by decide) 0 _) (HKR.out.set rfl) (by decide) 1 _)) ((HB.out.setCell (p := ⟨w.heap.size, 0, none⟩) (Nat.le_refl _) _).setCell (p := ⟨w.heap.size, 1, none⟩) (Nat.le_refl _) _))
            rw [results_cell_tmp (p := 2) (u := 3) (ty := 57) rfl]
            have hl := load25 ((HKR.out.set (o := 0) (v := .string (str ty)) rfl).set (o := 1) (v := .slice p2 n cap2) rfl)
            simp [asAddr, hl]
    · have d3 : ((c.toNat : Int) != 47) = true := by
        have : ¬ (c.toNat : Int) = 47 := fun h => h47 (u8_lit.1 h)
        simpa using this
      have HN : Hid (r = none) := Lib.hid (by rw [HP2.out, hhd, if_neg (by simpa using h47)])
      clear h47 HP2 hhd
      go_enter Tryz.func25, Tryz.ntmps25
      go_wp2_with (first
        | (go_at_call 49; refine (HBa.out _).mono ?_; rintro _ w9 ⟨rfl, hw9⟩; subst w9; clear HBa)
        | (go_at_call 50; refine (HTa.out _).mono ?_; rintro _ w9 ⟨rfl, hw9⟩; subst w9; clear HTa))
      refine bodyPost_ret (v := .tuple #[.agg #[.string ⟨#[]⟩, .slice none 0 0], .int .i64 70]) ?_ rfl (pe_no HN.out HB0.out)
      rw [results_cell_tmp (p := 2) (u := 3) (ty := 57) rfl]
      have hl := load25 hk0.out
      simp [asAddr, hl]
  · have d2 : decide ((s.size : Int) ≤ (a : Int)) = true := by simp; omega
    have HN : Hid (r = none) := Lib.hid (by rw [HP2.out, head_out (by have := HSZ.out; omega), if_neg (by simp)])
    clear HP2
    go_enter Tryz.func25, Tryz.ntmps25
    go_wp2_with (first
      | (go_at_call 49; refine (HBa.out _).mono ?_; rintro _ w9 ⟨rfl, hw9⟩; subst w9; clear HBa)
      | (go_at_call 50; refine (HTa.out _).mono ?_; rintro _ w9 ⟨rfl, hw9⟩; subst w9; clear HTa))
    refine bodyPost_ret (v := .tuple #[.agg #[.string ⟨#[]⟩, .slice none 0 0], .int .i64 70]) ?_ rfl (pe_no HN.out HB0.out)
    rw [results_cell_tmp (p := 2) (u := 3) (ty := 57) rfl]
    have hl := load25 hk0.out
    simp [asAddr, hl]

end Go.Proofs.YtppabkllconkjaaGreatDoor.Med
