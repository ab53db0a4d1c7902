/- The contract of the document's own part. -/
import Derived.Test.YtdkfbikpadehdaaDoorEB
import Derived.Laws.ResultCell
import Derived.Laws.Rows
import Derived.Laws.Tables
import Derived.Deep.WholeRow
namespace Go.Proofs.YtdkfbikpadehdaaDoor.Dec
open Go.RowKit
set_option linter.unusedVariables false
set_option linter.unusedSimpArgs false
open Lab (RetS ret_str str str_size str_list str_eta str_inj u8v info5 info_parts)
theorem results_cell_tmp2 {fn : Func} {p u v : Tmp} {ty : TypeId} (h : fn.results = #[.cell p ty, .tmp u, .tmp v]) (tmps : Array Value) (P : Program) (w : World) :
    (results fn tmps).run P w =
      ((asAddr (tmps.getD p undef)).run P w).andThen fun a w₁ => ((loadVar ty a).run P w₁).andThen fun x w₂ => .ok (.tuple #[x, tmps.getD u undef, tmps.getD v undef]) w₂ := by
  simp only [results, h]
  simp [Sem.run_bind, Result.andThen]
theorem infoP : (Tryd.prog.info? 38).map (fun i => (i.zero, i.size)) = some (some (.agg #[.string ⟨#[]⟩, .string ⟨#[]⟩]), 2) := by kernel_rfl
theorem loadP {W : World} {R : Nat} {x y : Value} (h : Blk W R #[x, y] 38) : (loadVar 38 ⟨R, 0, none⟩).run Tryd.prog W = .ok (.agg #[x, y]) W :=
  run_loadVar_row W R 38 38 #[x, y] (0, 0) _ h Tryd.underlying38 rfl (zero_of_info infoP).2
theorem buildP0 (w : World) : (Instr.build 38 #[]).run Tryd.prog w = .ok (.agg #[.string ⟨#[]⟩, .string ⟨#[]⟩]) w := by kernel_rfl
theorem blk2 {w : World} {b : Nat} {x y : Value} {T : TypeId} (h : Blk w b #[x, y] T) : w.cell? ⟨b, 0, none⟩ = some x ∧ w.cell? ⟨b, 1, none⟩ = some y ∧ w.frozen? ⟨b, 0, none⟩ = false ∧ w.frozen? ⟨b, 1, none⟩ = false :=
  ⟨by rw [h.cell]; rfl, by rw [h.cell]; rfl, h.froz 0, h.froz 1⟩
/-- What part tells. -/
def PtR (l : List UInt8) (r : Option (Prt × List UInt8)) (w : World) (e : Ending) (w' : World) : Prop :=
  (match r with
    | none => ∃ (i : Int), e = .returned (.tuple #[.agg #[.string ⟨#[]⟩, .string ⟨#[]⟩], .int .i64 i, .bool false])
    | some q => e = .returned (.tuple #[.agg #[.string (str q.1.1), .string (str q.1.2)], .int .i64 ((l.length - q.2.length : Nat) : Int), .bool true])) ∧ Below w.heap.size w w'
theorem pt_no {l : List UInt8} {r : Option (Prt × List UInt8)} {w w' : World} {i : Int} (h : r = none) (hb : Below w.heap.size w w') : PtR l r w (.returned (.tuple #[.agg #[.string ⟨#[]⟩, .string ⟨#[]⟩], .int .i64 i, .bool false])) w' := by
  subst h; exact ⟨⟨i, rfl⟩, hb⟩
theorem pt_yes {l : List UInt8} {r : Option (Prt × List UInt8)} {w w' : World} {x y R : List UInt8} {i : Int} (h : r = some ((x, y), R)) (hi : i = ((l.length - R.length : Nat) : Int)) (hb : Below w.heap.size w w') : PtR l r w (.returned (.tuple #[.agg #[.string (str x), .string (str y)], .int .i64 i, .bool true])) w' := by
  subst h; subst hi; exact ⟨rfl, hb⟩
theorem ltr_no1 {c : UInt8} (h : ¬ 97 ≤ (c.toNat : Int)) : ltr c = false := by
  have : ∀ c : Fin 256, ltr (UInt8.ofNat c) = (decide ((97 : Int) ≤ (c.val : Int)) && decide ((c.val : Int) ≤ 122)) := by decide +kernel
  have k := this ⟨c.toNat, c.toNat_lt⟩
  simp at k
  simp [k]; omega
theorem ltr_int (c : UInt8) : ltr c = (decide (97 ≤ (c.toNat : Int)) && decide ((c.toNat : Int) ≤ 122)) := by
  have : ∀ c : Fin 256, ltr (UInt8.ofNat c) = (decide ((97 : Int) ≤ (c.val : Int)) && decide ((c.val : Int) ≤ 122)) := by decide +kernel
  have k := this ⟨c.toNat, c.toNat_lt⟩
  simpa using k
set_option maxRecDepth 100000 in
set_option maxHeartbeats 8000000 in
theorem part_any (l : List UInt8) (a : Nat) (w : World) (hs : l.length ≤ 100000) (ha : a ≤ l.length) : Calls Tryd.prog 23 #[.string (str l), .int .i64 (a : Int)] w fun e w' => PtR l (prt (l.drop a)) w e w' := by
  have HBL : Hid (∀ (a : Nat) (w : World), a ≤ l.length → Calls Tryd.prog 29 #[.string (str l), .int .i64 (a : Int)] w fun e w' => e = .returned (.int .i64 (endW wht l a : Int)) ∧ w' = w) := Lib.hid fun a w h => blank_str l a w (by unfold maxLen; omega) h
  have HSL : Hid (∀ (x y : Nat), x ≤ y → y ≤ l.length → ∀ w0 : World, (Instr.slice 9 (.string (str l)) (some (.int .i64 (x : Int))) (some (.int .i64 (y : Int))) none).run Tryd.prog w0 = .ok (.string (str ((l.drop x).take (y - x)))) w0) := Lib.hid fun x y h1 h2 w0 => slice_law (str l) x y h1 (by rw [str_size]; exact h2) (str_list l) rfl w0
  have hb0 := buildP0
  obtain ⟨k, hk⟩ : ∃ k, endW wht l a = k := ⟨_, rfl⟩
  obtain ⟨t, ht⟩ : ∃ t, endW ltr l k = t := ⟨_, rfl⟩
  obtain ⟨e, he⟩ : ∃ e, endW wht l t = e := ⟨_, rfl⟩
  obtain ⟨v, hv⟩ : ∃ v, endW wht l (e + 1) = v := ⟨_, rfl⟩
  have gk0 : a ≤ k := by rw [← hk]; exact endW_ge _ _ _
  have gk1 : k ≤ l.length := by rw [← hk]; exact endW_le ha
  have gt0 : k ≤ t := by rw [← ht]; exact endW_ge _ _ _
  have gt1 : t ≤ l.length := by rw [← ht]; exact endW_le gk1
  have ge0 : t ≤ e := by rw [← he]; exact endW_ge _ _ _
  have ge1 : e ≤ l.length := by rw [← he]; exact endW_le gt1
  have gv0 : e + 1 ≤ v := by rw [← hv]; exact endW_ge _ _ _
  have gv1 : e < l.length → v ≤ l.length := fun h => by rw [← hv]; exact endW_le h
  have HP := Lib.hid (prt_idx hk ht he hv)
  have HTK := Lib.hid ht
  have HBa : Hid (∀ w, Calls Tryd.prog 29 #[.string (str l), .int .i64 (a : Int)] w fun e w' => e = .returned (.int .i64 (k : Int)) ∧ w' = w) := Lib.hid fun w => by rw [← hk]; exact HBL.out a w ha
  have HBt : Hid (∀ w, Calls Tryd.prog 29 #[.string (str l), .int .i64 (t : Int)] w fun e' w' => e' = .returned (.int .i64 (e : Int)) ∧ w' = w) := Lib.hid fun w => by rw [← he]; exact HBL.out t w gt1
  have HBe : Hid (e < l.length → ∀ w, Calls Tryd.prog 29 #[.string (str l), .int .i64 ((e : Int) + 1)] w fun e' w' => e' = .returned (.int .i64 (v : Int)) ∧ w' = w) := Lib.hid fun h w => by rw [← hv]; exact HBL.out (e + 1) w h
  clear hk ht he hv HBL
  obtain ⟨r, hr⟩ : ∃ r, prt (l.drop a) = r := ⟨_, rfl⟩
  rw [hr] at HP ⊢
  clear hr
  obtain ⟨s, hs'⟩ : ∃ s, str l = s := ⟨_, rfl⟩
  have hsz : s.size = l.length := by rw [← hs', str_size]
  have HEL : Hid (∀ (i : Nat) (h : i < s.size) (h' : i < l.length), l[i] = s[i]) := Lib.hid fun i h h' => by
    subst hs'; rfl
  rw [hs'] at HBa HBt HBe HSL ⊢
  have HSZ := Lib.hid hsz
  have hs6 : s.size ≤ 100000 := by omega
  rw [← hsz] at ha gk1 gt1 ge1 gv1
  have HBe2 : Hid (e < s.size → ∀ w, Calls Tryd.prog 29 #[.string s, .int .i64 ((e : Int) + 1)] w fun e' w' => e' = .returned (.int .i64 (v : Int)) ∧ w' = w) := Lib.hid fun h => HBe.out (by omega)
  have hk0 := Lib.hid (Blk.new w #[.string ⟨#[]⟩, .string ⟨#[]⟩] 38)
  have HB0 : Hid (Below w.heap.size w (w.alloc (.cells #[.string ⟨#[]⟩, .string ⟨#[]⟩] 38))) := Lib.hid ((Below.refl _ w).alloc (Nat.le_refl _) _)
  have hcells := blk2 hk0.out
  obtain ⟨c0, c1, f0, f1⟩ := hcells
  clear hs' hsz hs HBe
  by_cases hA : k = a
  · have HN := Lib.hid (HP.out.trans (if_pos (.inl hA)))
    have dA : ((k : Int) == (a : Int)) = true := by simp; omega
    clear hA HP HBe2 HSL gv1
    go_enter Tryd.func23, Tryd.ntmps23
    go_wp2_with (go_at_call 29; refine (HBa.out _).mono ?_; rintro _ w9 ⟨rfl, hw9⟩; subst w9; clear HBa)
    go_loopg [8] (s.size + 1) (fun g q wr => ∃ (i : Nat), i + g = s.size + 1 + k ∧ w.alloc (.cells #[.string ⟨#[]⟩, .string ⟨#[]⟩] 38) = wr ∧ q = .int .i64 i ∧ k ≤ i ∧ i ≤ s.size ∧ Hid (endW ltr l i = t))
    case atStart => exact ⟨k, by omega, rfl, rfl, Nat.le_refl _, gk1, HTK⟩
    case round =>
      obtain ⟨i, hkg, hw, rfl, hi5, hi7, HE⟩ := hrel
      subst hw
      by_cases hgo : i < s.size ∧ (97 ≤ (s[i]!.toNat : Int) ∧ (s[i]!.toNat : Int) ≤ 122)
      · obtain ⟨hlt, h97, h122⟩ := hgo
        rw [getElem!_pos s i hlt] at h97 h122
        have hil : i < l.length := by have := HSZ.out; omega
        have e1 := HEL.out i hlt hil
        have hj0 : (0 : Int) ≤ (i : Int) := by omega
        have hj3 : (i : Int) < (s.size : Int) := by omega
        have d1 : decide (97 ≤ (s[i].toNat : Int)) = true := by simpa using h97
        have d2 : decide ((s[i].toNat : Int) ≤ 122) = true := by simpa using h122
        have HE2 := Lib.hid ((endW_go (p := ltr) hil (by rw [e1, ltr_int, d1, d2]; rfl)).symm.trans HE.out)
        clear h97 h122 e1 HE
        go_wp2_with fail
        go_roundg (gk - 1)
        case measure => omega
        case rel => exact ⟨i + 1, by omega, rfl, by go_num, by omega, by omega, HE2⟩
      · have hti : t = i := by
          rw [← HE.out]
          by_cases hlt : i < s.size
          · have hil : i < l.length := by have := HSZ.out; omega
            refine endW_stop hil ?_
            rw [HEL.out i hlt hil, ltr_int]
            by_cases h97 : 97 ≤ (s[i].toNat : Int)
            · have h122 : ¬ (s[i].toNat : Int) ≤ 122 := fun h => hgo ⟨hlt, by rw [getElem!_pos s i hlt]; exact ⟨h97, h⟩⟩
              simp [h122]
            · simp [h97]
          · exact endW_out (by have := HSZ.out; omega)
        subst hti
        clear HE HTK
        have hex : (¬ t < s.size) ∨ (∃ h : t < s.size, ¬ 97 ≤ (s[t].toNat : Int)) ∨ (∃ h : t < s.size, 97 ≤ (s[t].toNat : Int) ∧ ¬ (s[t].toNat : Int) ≤ 122) := by
          by_cases hlt : t < s.size
          · right
            rw [getElem!_pos s t hlt] at hgo
            by_cases h97 : 97 ≤ (s[t].toNat : Int)
            · exact .inr ⟨hlt, h97, fun h => hgo ⟨hlt, h97, h⟩⟩
            · exact .inl ⟨hlt, h97⟩
          · exact .inl hlt
        clear hgo
        have hj0 : (0 : Int) ≤ (t : Int) := by omega
        rcases hex with hx | ⟨hx, hy⟩ | ⟨hx, hy, hz⟩
        · have hnx : ¬ (t : Int) < (s.size : Int) := by omega
          go_wp2_with (go_at_call 29; refine (HBt.out _).mono ?_; rintro _ w9 ⟨rfl, hw9⟩; subst w9; clear HBt)
          refine bodyPost_ret (v := .tuple #[.agg #[.string ⟨#[]⟩, .string ⟨#[]⟩], .int .i64 (a : Int), .bool false]) ?_ rfl (pt_no HN.out HB0.out)
          rw [results_cell_tmp2 (p := 4) (u := 5) (v := 6) (ty := 38) rfl]
          have hl := loadP hk0.out
          simp [asAddr, hl]
        · have hj3 : (t : Int) < (s.size : Int) := by omega
          have dy : decide (97 ≤ (s[t].toNat : Int)) = false := by simpa using hy
          clear hy
          go_wp2_with (go_at_call 29; refine (HBt.out _).mono ?_; rintro _ w9 ⟨rfl, hw9⟩; subst w9; clear HBt)
          refine bodyPost_ret (v := .tuple #[.agg #[.string ⟨#[]⟩, .string ⟨#[]⟩], .int .i64 (a : Int), .bool false]) ?_ rfl (pt_no HN.out HB0.out)
          rw [results_cell_tmp2 (p := 4) (u := 5) (v := 6) (ty := 38) rfl]
          have hl := loadP hk0.out
          simp [asAddr, hl]
        · have hj3 : (t : Int) < (s.size : Int) := by omega
          have dy : decide (97 ≤ (s[t].toNat : Int)) = true := by simpa using hy
          have dz : decide ((s[t].toNat : Int) ≤ 122) = false := by simpa using hz
          clear hy hz
          go_wp2_with (go_at_call 29; refine (HBt.out _).mono ?_; rintro _ w9 ⟨rfl, hw9⟩; subst w9; clear HBt)
          refine bodyPost_ret (v := .tuple #[.agg #[.string ⟨#[]⟩, .string ⟨#[]⟩], .int .i64 (a : Int), .bool false]) ?_ rfl (pt_no HN.out HB0.out)
          rw [results_cell_tmp2 (p := 4) (u := 5) (v := 6) (ty := 38) rfl]
          have hl := loadP hk0.out
          simp [asAddr, hl]
  have dA : ((k : Int) == (a : Int)) = false := by simp; omega
  by_cases hB : t = k
  · have HN := Lib.hid (HP.out.trans (if_pos (.inr hB)))
    have dB : ((t : Int) == (k : Int)) = true := by simp; omega
    clear hA hB HP HBe2 HSL gv1
    go_enter Tryd.func23, Tryd.ntmps23
    go_wp2_with (go_at_call 29; refine (HBa.out _).mono ?_; rintro _ w9 ⟨rfl, hw9⟩; subst w9; clear HBa)
    go_loopg [8] (s.size + 1) (fun g q wr => ∃ (i : Nat), i + g = s.size + 1 + k ∧ w.alloc (.cells #[.string ⟨#[]⟩, .string ⟨#[]⟩] 38) = wr ∧ q = .int .i64 i ∧ k ≤ i ∧ i ≤ s.size ∧ Hid (endW ltr l i = t))
    case atStart => exact ⟨k, by omega, rfl, rfl, Nat.le_refl _, gk1, HTK⟩
    case round =>
      obtain ⟨i, hkg, hw, rfl, hi5, hi7, HE⟩ := hrel
      subst hw
      by_cases hgo : i < s.size ∧ (97 ≤ (s[i]!.toNat : Int) ∧ (s[i]!.toNat : Int) ≤ 122)
      · obtain ⟨hlt, h97, h122⟩ := hgo
        rw [getElem!_pos s i hlt] at h97 h122
        have hil : i < l.length := by have := HSZ.out; omega
        have e1 := HEL.out i hlt hil
        have hj0 : (0 : Int) ≤ (i : Int) := by omega
        have hj3 : (i : Int) < (s.size : Int) := by omega
        have d1 : decide (97 ≤ (s[i].toNat : Int)) = true := by simpa using h97
        have d2 : decide ((s[i].toNat : Int) ≤ 122) = true := by simpa using h122
        have HE2 := Lib.hid ((endW_go (p := ltr) hil (by rw [e1, ltr_int, d1, d2]; rfl)).symm.trans HE.out)
        clear h97 h122 e1 HE
        go_wp2_with fail
        go_roundg (gk - 1)
        case measure => omega
        case rel => exact ⟨i + 1, by omega, rfl, by go_num, by omega, by omega, HE2⟩
      · have hti : t = i := by
          rw [← HE.out]
          by_cases hlt : i < s.size
          · have hil : i < l.length := by have := HSZ.out; omega
            refine endW_stop hil ?_
            rw [HEL.out i hlt hil, ltr_int]
            by_cases h97 : 97 ≤ (s[i].toNat : Int)
            · have h122 : ¬ (s[i].toNat : Int) ≤ 122 := fun h => hgo ⟨hlt, by rw [getElem!_pos s i hlt]; exact ⟨h97, h⟩⟩
              simp [h122]
            · simp [h97]
          · exact endW_out (by have := HSZ.out; omega)
        subst hti
        clear HE HTK
        have hex : (¬ t < s.size) ∨ (∃ h : t < s.size, ¬ 97 ≤ (s[t].toNat : Int)) ∨ (∃ h : t < s.size, 97 ≤ (s[t].toNat : Int) ∧ ¬ (s[t].toNat : Int) ≤ 122) := by
          by_cases hlt : t < s.size
          · right
            rw [getElem!_pos s t hlt] at hgo
            by_cases h97 : 97 ≤ (s[t].toNat : Int)
            · exact .inr ⟨hlt, h97, fun h => hgo ⟨hlt, h97, h⟩⟩
            · exact .inl ⟨hlt, h97⟩
          · exact .inl hlt
        clear hgo
        have hj0 : (0 : Int) ≤ (t : Int) := by omega
        rcases hex with hx | ⟨hx, hy⟩ | ⟨hx, hy, hz⟩
        · have hnx : ¬ (t : Int) < (s.size : Int) := by omega
          go_wp2_with (go_at_call 29; refine (HBt.out _).mono ?_; rintro _ w9 ⟨rfl, hw9⟩; subst w9; clear HBt)
          refine bodyPost_ret (v := .tuple #[.agg #[.string ⟨#[]⟩, .string ⟨#[]⟩], .int .i64 (a : Int), .bool false]) ?_ rfl (pt_no HN.out HB0.out)
          rw [results_cell_tmp2 (p := 4) (u := 5) (v := 6) (ty := 38) rfl]
          have hl := loadP hk0.out
          simp [asAddr, hl]
        · have hj3 : (t : Int) < (s.size : Int) := by omega
          have dy : decide (97 ≤ (s[t].toNat : Int)) = false := by simpa using hy
          clear hy
          go_wp2_with (go_at_call 29; refine (HBt.out _).mono ?_; rintro _ w9 ⟨rfl, hw9⟩; subst w9; clear HBt)
          refine bodyPost_ret (v := .tuple #[.agg #[.string ⟨#[]⟩, .string ⟨#[]⟩], .int .i64 (a : Int), .bool false]) ?_ rfl (pt_no HN.out HB0.out)
          rw [results_cell_tmp2 (p := 4) (u := 5) (v := 6) (ty := 38) rfl]
          have hl := loadP hk0.out
          simp [asAddr, hl]
        · have hj3 : (t : Int) < (s.size : Int) := by omega
          have dy : decide (97 ≤ (s[t].toNat : Int)) = true := by simpa using hy
          have dz : decide ((s[t].toNat : Int) ≤ 122) = false := by simpa using hz
          clear hy hz
          go_wp2_with (go_at_call 29; refine (HBt.out _).mono ?_; rintro _ w9 ⟨rfl, hw9⟩; subst w9; clear HBt)
          refine bodyPost_ret (v := .tuple #[.agg #[.string ⟨#[]⟩, .string ⟨#[]⟩], .int .i64 (a : Int), .bool false]) ?_ rfl (pt_no HN.out HB0.out)
          rw [results_cell_tmp2 (p := 4) (u := 5) (v := 6) (ty := 38) rfl]
          have hl := loadP hk0.out
          simp [asAddr, hl]
  have dB : ((t : Int) == (k : Int)) = false := by simp; omega
  have HP2 := Lib.hid (HP.out.trans (if_neg (fun h => h.elim hA hB)))
  clear HP hA hB
  by_cases hC : s.size ≤ e
  · have HN := Lib.hid (HP2.out.trans (if_neg (by rw [List.getElem?_eq_none (by have := HSZ.out; omega)]; simp)))
    have dC : decide ((s.size : Int) ≤ (e : Int)) = true := by simpa using hC
    clear HP2 HBe2 HSL gv1
    go_enter Tryd.func23, Tryd.ntmps23
    go_wp2_with (go_at_call 29; refine (HBa.out _).mono ?_; rintro _ w9 ⟨rfl, hw9⟩; subst w9; clear HBa)
    go_loopg [8] (s.size + 1) (fun g q wr => ∃ (i : Nat), i + g = s.size + 1 + k ∧ w.alloc (.cells #[.string ⟨#[]⟩, .string ⟨#[]⟩] 38) = wr ∧ q = .int .i64 i ∧ k ≤ i ∧ i ≤ s.size ∧ Hid (endW ltr l i = t))
    case atStart => exact ⟨k, by omega, rfl, rfl, Nat.le_refl _, gk1, HTK⟩
    case round =>
      obtain ⟨i, hkg, hw, rfl, hi5, hi7, HE⟩ := hrel
      subst hw
      by_cases hgo : i < s.size ∧ (97 ≤ (s[i]!.toNat : Int) ∧ (s[i]!.toNat : Int) ≤ 122)
      · obtain ⟨hlt, h97, h122⟩ := hgo
        rw [getElem!_pos s i hlt] at h97 h122
        have hil : i < l.length := by have := HSZ.out; omega
        have e1 := HEL.out i hlt hil
        have hj0 : (0 : Int) ≤ (i : Int) := by omega
        have hj3 : (i : Int) < (s.size : Int) := by omega
        have d1 : decide (97 ≤ (s[i].toNat : Int)) = true := by simpa using h97
        have d2 : decide ((s[i].toNat : Int) ≤ 122) = true := by simpa using h122
        have HE2 := Lib.hid ((endW_go (p := ltr) hil (by rw [e1, ltr_int, d1, d2]; rfl)).symm.trans HE.out)
        clear h97 h122 e1 HE
        go_wp2_with fail
        go_roundg (gk - 1)
        case measure => omega
        case rel => exact ⟨i + 1, by omega, rfl, by go_num, by omega, by omega, HE2⟩
      · have hti : t = i := by
          rw [← HE.out]
          by_cases hlt : i < s.size
          · have hil : i < l.length := by have := HSZ.out; omega
            refine endW_stop hil ?_
            rw [HEL.out i hlt hil, ltr_int]
            by_cases h97 : 97 ≤ (s[i].toNat : Int)
            · have h122 : ¬ (s[i].toNat : Int) ≤ 122 := fun h => hgo ⟨hlt, by rw [getElem!_pos s i hlt]; exact ⟨h97, h⟩⟩
              simp [h122]
            · simp [h97]
          · exact endW_out (by have := HSZ.out; omega)
        subst hti
        clear HE HTK
        have hex : (¬ t < s.size) ∨ (∃ h : t < s.size, ¬ 97 ≤ (s[t].toNat : Int)) ∨ (∃ h : t < s.size, 97 ≤ (s[t].toNat : Int) ∧ ¬ (s[t].toNat : Int) ≤ 122) := by
          by_cases hlt : t < s.size
          · right
            rw [getElem!_pos s t hlt] at hgo
            by_cases h97 : 97 ≤ (s[t].toNat : Int)
            · exact .inr ⟨hlt, h97, fun h => hgo ⟨hlt, h97, h⟩⟩
            · exact .inl ⟨hlt, h97⟩
          · exact .inl hlt
        clear hgo
        have hj0 : (0 : Int) ≤ (t : Int) := by omega
        rcases hex with hx | ⟨hx, hy⟩ | ⟨hx, hy, hz⟩
        · have hnx : ¬ (t : Int) < (s.size : Int) := by omega
          go_wp2_with (go_at_call 29; refine (HBt.out _).mono ?_; rintro _ w9 ⟨rfl, hw9⟩; subst w9; clear HBt)
          refine bodyPost_ret (v := .tuple #[.agg #[.string ⟨#[]⟩, .string ⟨#[]⟩], .int .i64 (a : Int), .bool false]) ?_ rfl (pt_no HN.out HB0.out)
          rw [results_cell_tmp2 (p := 4) (u := 5) (v := 6) (ty := 38) rfl]
          have hl := loadP hk0.out
          simp [asAddr, hl]
        · have hj3 : (t : Int) < (s.size : Int) := by omega
          have dy : decide (97 ≤ (s[t].toNat : Int)) = false := by simpa using hy
          clear hy
          go_wp2_with (go_at_call 29; refine (HBt.out _).mono ?_; rintro _ w9 ⟨rfl, hw9⟩; subst w9; clear HBt)
          refine bodyPost_ret (v := .tuple #[.agg #[.string ⟨#[]⟩, .string ⟨#[]⟩], .int .i64 (a : Int), .bool false]) ?_ rfl (pt_no HN.out HB0.out)
          rw [results_cell_tmp2 (p := 4) (u := 5) (v := 6) (ty := 38) rfl]
          have hl := loadP hk0.out
          simp [asAddr, hl]
        · have hj3 : (t : Int) < (s.size : Int) := by omega
          have dy : decide (97 ≤ (s[t].toNat : Int)) = true := by simpa using hy
          have dz : decide ((s[t].toNat : Int) ≤ 122) = false := by simpa using hz
          clear hy hz
          go_wp2_with (go_at_call 29; refine (HBt.out _).mono ?_; rintro _ w9 ⟨rfl, hw9⟩; subst w9; clear HBt)
          refine bodyPost_ret (v := .tuple #[.agg #[.string ⟨#[]⟩, .string ⟨#[]⟩], .int .i64 (a : Int), .bool false]) ?_ rfl (pt_no HN.out HB0.out)
          rw [results_cell_tmp2 (p := 4) (u := 5) (v := 6) (ty := 38) rfl]
          have hl := loadP hk0.out
          simp [asAddr, hl]
  have dC : decide ((s.size : Int) ≤ (e : Int)) = false := by simp; omega
  have hel : e < s.size := by omega
  have hell : e < l.length := by have := HSZ.out; omega
  have he0 : (0 : Int) ≤ (e : Int) := by omega
  have he3 : (e : Int) < (s.size : Int) := by omega
  have HEe := HEL.out e hel hell
  by_cases hD : ¬ s[e] = 61
  · have HN := Lib.hid (HP2.out.trans (if_neg (by rw [List.getElem?_eq_getElem hell, HEe]; exact fun h => hD (Option.some.inj h))))
    have dD : ((s[e].toNat : Int) != 61) = true := by
      have : ¬ (s[e].toNat : Int) = 61 := fun h => hD (u8_lit.1 h)
      simpa using this
    clear HP2 HBe2 HSL gv1 hD HEe
    go_enter Tryd.func23, Tryd.ntmps23
    go_wp2_with (go_at_call 29; refine (HBa.out _).mono ?_; rintro _ w9 ⟨rfl, hw9⟩; subst w9; clear HBa)
    go_loopg [8] (s.size + 1) (fun g q wr => ∃ (i : Nat), i + g = s.size + 1 + k ∧ w.alloc (.cells #[.string ⟨#[]⟩, .string ⟨#[]⟩] 38) = wr ∧ q = .int .i64 i ∧ k ≤ i ∧ i ≤ s.size ∧ Hid (endW ltr l i = t))
    case atStart => exact ⟨k, by omega, rfl, rfl, Nat.le_refl _, gk1, HTK⟩
    case round =>
      obtain ⟨i, hkg, hw, rfl, hi5, hi7, HE⟩ := hrel
      subst hw
      by_cases hgo : i < s.size ∧ (97 ≤ (s[i]!.toNat : Int) ∧ (s[i]!.toNat : Int) ≤ 122)
      · obtain ⟨hlt, h97, h122⟩ := hgo
        rw [getElem!_pos s i hlt] at h97 h122
        have hil : i < l.length := by have := HSZ.out; omega
        have e1 := HEL.out i hlt hil
        have hj0 : (0 : Int) ≤ (i : Int) := by omega
        have hj3 : (i : Int) < (s.size : Int) := by omega
        have d1 : decide (97 ≤ (s[i].toNat : Int)) = true := by simpa using h97
        have d2 : decide ((s[i].toNat : Int) ≤ 122) = true := by simpa using h122
        have HE2 := Lib.hid ((endW_go (p := ltr) hil (by rw [e1, ltr_int, d1, d2]; rfl)).symm.trans HE.out)
        clear h97 h122 e1 HE
        go_wp2_with fail
        go_roundg (gk - 1)
        case measure => omega
        case rel => exact ⟨i + 1, by omega, rfl, by go_num, by omega, by omega, HE2⟩
      · have hti : t = i := by
          rw [← HE.out]
          by_cases hlt : i < s.size
          · have hil : i < l.length := by have := HSZ.out; omega
            refine endW_stop hil ?_
            rw [HEL.out i hlt hil, ltr_int]
            by_cases h97 : 97 ≤ (s[i].toNat : Int)
            · have h122 : ¬ (s[i].toNat : Int) ≤ 122 := fun h => hgo ⟨hlt, by rw [getElem!_pos s i hlt]; exact ⟨h97, h⟩⟩
              simp [h122]
            · simp [h97]
          · exact endW_out (by have := HSZ.out; omega)
        subst hti
        clear HE HTK
        have hex : (¬ t < s.size) ∨ (∃ h : t < s.size, ¬ 97 ≤ (s[t].toNat : Int)) ∨ (∃ h : t < s.size, 97 ≤ (s[t].toNat : Int) ∧ ¬ (s[t].toNat : Int) ≤ 122) := by
          by_cases hlt : t < s.size
          · right
            rw [getElem!_pos s t hlt] at hgo
            by_cases h97 : 97 ≤ (s[t].toNat : Int)
            · exact .inr ⟨hlt, h97, fun h => hgo ⟨hlt, h97, h⟩⟩
            · exact .inl ⟨hlt, h97⟩
          · exact .inl hlt
        clear hgo
        have hj0 : (0 : Int) ≤ (t : Int) := by omega
        rcases hex with hx | ⟨hx, hy⟩ | ⟨hx, hy, hz⟩
        · exfalso; omega
        · have hj3 : (t : Int) < (s.size : Int) := by omega
          have dy : decide (97 ≤ (s[t].toNat : Int)) = false := by simpa using hy
          clear hy
          go_wp2_with (go_at_call 29; refine (HBt.out _).mono ?_; rintro _ w9 ⟨rfl, hw9⟩; subst w9; clear HBt)
          refine bodyPost_ret (v := .tuple #[.agg #[.string ⟨#[]⟩, .string ⟨#[]⟩], .int .i64 (a : Int), .bool false]) ?_ rfl (pt_no HN.out HB0.out)
          rw [results_cell_tmp2 (p := 4) (u := 5) (v := 6) (ty := 38) rfl]
          have hl := loadP hk0.out
          simp [asAddr, hl]
        · have hj3 : (t : Int) < (s.size : Int) := by omega
          have dy : decide (97 ≤ (s[t].toNat : Int)) = true := by simpa using hy
          have dz : decide ((s[t].toNat : Int) ≤ 122) = false := by simpa using hz
          clear hy hz
          go_wp2_with (go_at_call 29; refine (HBt.out _).mono ?_; rintro _ w9 ⟨rfl, hw9⟩; subst w9; clear HBt)
          refine bodyPost_ret (v := .tuple #[.agg #[.string ⟨#[]⟩, .string ⟨#[]⟩], .int .i64 (a : Int), .bool false]) ?_ rfl (pt_no HN.out HB0.out)
          rw [results_cell_tmp2 (p := 4) (u := 5) (v := 6) (ty := 38) rfl]
          have hl := loadP hk0.out
          simp [asAddr, hl]
  have hD : s[e] = 61 := Classical.not_not.1 hD
  have dD : ((s[e].toNat : Int) != 61) = false := by rw [hD]; decide
  have HP3 := Lib.hid (HP2.out.trans (if_pos (by rw [List.getElem?_eq_getElem hell, HEe, hD])))
  have HBv := Lib.hid (HBe2.out hel)
  have hv1 := gv1 hel
  clear HP2 HBe2 gv1 hD HEe
  by_cases hE : s.size ≤ v
  · have HN := Lib.hid (HP3.out.trans (qvl_out (by have := HSZ.out; omega)))
    have dE : decide ((s.size : Int) ≤ (v : Int)) = true := by simpa using hE
    clear HP3 HSL
    go_enter Tryd.func23, Tryd.ntmps23
    go_wp2_with (go_at_call 29; refine (HBa.out _).mono ?_; rintro _ w9 ⟨rfl, hw9⟩; subst w9; clear HBa)
    go_loopg [8] (s.size + 1) (fun g q wr => ∃ (i : Nat), i + g = s.size + 1 + k ∧ w.alloc (.cells #[.string ⟨#[]⟩, .string ⟨#[]⟩] 38) = wr ∧ q = .int .i64 i ∧ k ≤ i ∧ i ≤ s.size ∧ Hid (endW ltr l i = t))
    case atStart => exact ⟨k, by omega, rfl, rfl, Nat.le_refl _, gk1, HTK⟩
    case round =>
      obtain ⟨i, hkg, hw, rfl, hi5, hi7, HE⟩ := hrel
      subst hw
      by_cases hgo : i < s.size ∧ (97 ≤ (s[i]!.toNat : Int) ∧ (s[i]!.toNat : Int) ≤ 122)
      · obtain ⟨hlt, h97, h122⟩ := hgo
        rw [getElem!_pos s i hlt] at h97 h122
        have hil : i < l.length := by have := HSZ.out; omega
        have e1 := HEL.out i hlt hil
        have hj0 : (0 : Int) ≤ (i : Int) := by omega
        have hj3 : (i : Int) < (s.size : Int) := by omega
        have d1 : decide (97 ≤ (s[i].toNat : Int)) = true := by simpa using h97
        have d2 : decide ((s[i].toNat : Int) ≤ 122) = true := by simpa using h122
        have HE2 := Lib.hid ((endW_go (p := ltr) hil (by rw [e1, ltr_int, d1, d2]; rfl)).symm.trans HE.out)
        clear h97 h122 e1 HE
        go_wp2_with fail
        go_roundg (gk - 1)
        case measure => omega
        case rel => exact ⟨i + 1, by omega, rfl, by go_num, by omega, by omega, HE2⟩
      · have hti : t = i := by
          rw [← HE.out]
          by_cases hlt : i < s.size
          · have hil : i < l.length := by have := HSZ.out; omega
            refine endW_stop hil ?_
            rw [HEL.out i hlt hil, ltr_int]
            by_cases h97 : 97 ≤ (s[i].toNat : Int)
            · have h122 : ¬ (s[i].toNat : Int) ≤ 122 := fun h => hgo ⟨hlt, by rw [getElem!_pos s i hlt]; exact ⟨h97, h⟩⟩
              simp [h122]
            · simp [h97]
          · exact endW_out (by have := HSZ.out; omega)
        subst hti
        clear HE HTK
        have hex : (¬ t < s.size) ∨ (∃ h : t < s.size, ¬ 97 ≤ (s[t].toNat : Int)) ∨ (∃ h : t < s.size, 97 ≤ (s[t].toNat : Int) ∧ ¬ (s[t].toNat : Int) ≤ 122) := by
          by_cases hlt : t < s.size
          · right
            rw [getElem!_pos s t hlt] at hgo
            by_cases h97 : 97 ≤ (s[t].toNat : Int)
            · exact .inr ⟨hlt, h97, fun h => hgo ⟨hlt, h97, h⟩⟩
            · exact .inl ⟨hlt, h97⟩
          · exact .inl hlt
        clear hgo
        have hj0 : (0 : Int) ≤ (t : Int) := by omega
        rcases hex with hx | ⟨hx, hy⟩ | ⟨hx, hy, hz⟩
        · exfalso; omega
        · have hj3 : (t : Int) < (s.size : Int) := by omega
          have dy : decide (97 ≤ (s[t].toNat : Int)) = false := by simpa using hy
          clear hy
          go_wp2_with (first | (go_at_call 29; refine (HBt.out _).mono ?_; rintro _ w9 ⟨rfl, hw9⟩; subst w9; clear HBt) | (go_at_call 29; refine (HBv.out _).mono ?_; rintro _ w9 ⟨rfl, hw9⟩; subst w9; clear HBv))
          refine bodyPost_ret (v := .tuple #[.agg #[.string ⟨#[]⟩, .string ⟨#[]⟩], .int .i64 (a : Int), .bool false]) ?_ rfl (pt_no HN.out HB0.out)
          rw [results_cell_tmp2 (p := 4) (u := 5) (v := 6) (ty := 38) rfl]
          have hl := loadP hk0.out
          simp [asAddr, hl]
        · have hj3 : (t : Int) < (s.size : Int) := by omega
          have dy : decide (97 ≤ (s[t].toNat : Int)) = true := by simpa using hy
          have dz : decide ((s[t].toNat : Int) ≤ 122) = false := by simpa using hz
          clear hy hz
          go_wp2_with (first | (go_at_call 29; refine (HBt.out _).mono ?_; rintro _ w9 ⟨rfl, hw9⟩; subst w9; clear HBt) | (go_at_call 29; refine (HBv.out _).mono ?_; rintro _ w9 ⟨rfl, hw9⟩; subst w9; clear HBv))
          refine bodyPost_ret (v := .tuple #[.agg #[.string ⟨#[]⟩, .string ⟨#[]⟩], .int .i64 (a : Int), .bool false]) ?_ rfl (pt_no HN.out HB0.out)
          rw [results_cell_tmp2 (p := 4) (u := 5) (v := 6) (ty := 38) rfl]
          have hl := loadP hk0.out
          simp [asAddr, hl]
  have dE : decide ((s.size : Int) ≤ (v : Int)) = false := by simp; omega
  have hvl : v < s.size := by omega
  have hvll : v < l.length := by have := HSZ.out; omega
  have hv0 : (0 : Int) ≤ (v : Int) := by omega
  have hv3 : (v : Int) < (s.size : Int) := by omega
  have HEv := HEL.out v hvl hvll
  by_cases hF : ¬ (s[v] = 34 ∨ s[v] = 39)
  · have HN := Lib.hid (HP3.out.trans (qvl_bad hvll (by rw [HEv]; exact fun h => hF (.inl h)) (by rw [HEv]; exact fun h => hF (.inr h))))
    have dF : ((s[v].toNat : Int) != 34) = true := by
      have : ¬ (s[v].toNat : Int) = 34 := fun h => hF (.inl (u8_lit.1 h))
      simpa using this
    have dG : ((s[v].toNat : Int) != 39) = true := by
      have : ¬ (s[v].toNat : Int) = 39 := fun h => hF (.inr (u8_lit.1 h))
      simpa using this
    clear HP3 HSL hF HEv
    go_enter Tryd.func23, Tryd.ntmps23
    go_wp2_with (go_at_call 29; refine (HBa.out _).mono ?_; rintro _ w9 ⟨rfl, hw9⟩; subst w9; clear HBa)
    go_loopg [8] (s.size + 1) (fun g q wr => ∃ (i : Nat), i + g = s.size + 1 + k ∧ w.alloc (.cells #[.string ⟨#[]⟩, .string ⟨#[]⟩] 38) = wr ∧ q = .int .i64 i ∧ k ≤ i ∧ i ≤ s.size ∧ Hid (endW ltr l i = t))
    case atStart => exact ⟨k, by omega, rfl, rfl, Nat.le_refl _, gk1, HTK⟩
    case round =>
      obtain ⟨i, hkg, hw, rfl, hi5, hi7, HE⟩ := hrel
      subst hw
      by_cases hgo : i < s.size ∧ (97 ≤ (s[i]!.toNat : Int) ∧ (s[i]!.toNat : Int) ≤ 122)
      · obtain ⟨hlt, h97, h122⟩ := hgo
        rw [getElem!_pos s i hlt] at h97 h122
        have hil : i < l.length := by have := HSZ.out; omega
        have e1 := HEL.out i hlt hil
        have hj0 : (0 : Int) ≤ (i : Int) := by omega
        have hj3 : (i : Int) < (s.size : Int) := by omega
        have d1 : decide (97 ≤ (s[i].toNat : Int)) = true := by simpa using h97
        have d2 : decide ((s[i].toNat : Int) ≤ 122) = true := by simpa using h122
        have HE2 := Lib.hid ((endW_go (p := ltr) hil (by rw [e1, ltr_int, d1, d2]; rfl)).symm.trans HE.out)
        clear h97 h122 e1 HE
        go_wp2_with fail
        go_roundg (gk - 1)
        case measure => omega
        case rel => exact ⟨i + 1, by omega, rfl, by go_num, by omega, by omega, HE2⟩
      · have hti : t = i := by
          rw [← HE.out]
          by_cases hlt : i < s.size
          · have hil : i < l.length := by have := HSZ.out; omega
            refine endW_stop hil ?_
            rw [HEL.out i hlt hil, ltr_int]
            by_cases h97 : 97 ≤ (s[i].toNat : Int)
            · have h122 : ¬ (s[i].toNat : Int) ≤ 122 := fun h => hgo ⟨hlt, by rw [getElem!_pos s i hlt]; exact ⟨h97, h⟩⟩
              simp [h122]
            · simp [h97]
          · exact endW_out (by have := HSZ.out; omega)
        subst hti
        clear HE HTK
        have hex : (¬ t < s.size) ∨ (∃ h : t < s.size, ¬ 97 ≤ (s[t].toNat : Int)) ∨ (∃ h : t < s.size, 97 ≤ (s[t].toNat : Int) ∧ ¬ (s[t].toNat : Int) ≤ 122) := by
          by_cases hlt : t < s.size
          · right
            rw [getElem!_pos s t hlt] at hgo
            by_cases h97 : 97 ≤ (s[t].toNat : Int)
            · exact .inr ⟨hlt, h97, fun h => hgo ⟨hlt, h97, h⟩⟩
            · exact .inl ⟨hlt, h97⟩
          · exact .inl hlt
        clear hgo
        have hj0 : (0 : Int) ≤ (t : Int) := by omega
        rcases hex with hx | ⟨hx, hy⟩ | ⟨hx, hy, hz⟩
        · exfalso; omega
        · have hj3 : (t : Int) < (s.size : Int) := by omega
          have dy : decide (97 ≤ (s[t].toNat : Int)) = false := by simpa using hy
          clear hy
          go_wp2_with (first | (go_at_call 29; refine (HBt.out _).mono ?_; rintro _ w9 ⟨rfl, hw9⟩; subst w9; clear HBt) | (go_at_call 29; refine (HBv.out _).mono ?_; rintro _ w9 ⟨rfl, hw9⟩; subst w9; clear HBv))
          refine bodyPost_ret (v := .tuple #[.agg #[.string ⟨#[]⟩, .string ⟨#[]⟩], .int .i64 (a : Int), .bool false]) ?_ rfl (pt_no HN.out HB0.out)
          rw [results_cell_tmp2 (p := 4) (u := 5) (v := 6) (ty := 38) rfl]
          have hl := loadP hk0.out
          simp [asAddr, hl]
        · have hj3 : (t : Int) < (s.size : Int) := by omega
          have dy : decide (97 ≤ (s[t].toNat : Int)) = true := by simpa using hy
          have dz : decide ((s[t].toNat : Int) ≤ 122) = false := by simpa using hz
          clear hy hz
          go_wp2_with (first | (go_at_call 29; refine (HBt.out _).mono ?_; rintro _ w9 ⟨rfl, hw9⟩; subst w9; clear HBt) | (go_at_call 29; refine (HBv.out _).mono ?_; rintro _ w9 ⟨rfl, hw9⟩; subst w9; clear HBv))
          refine bodyPost_ret (v := .tuple #[.agg #[.string ⟨#[]⟩, .string ⟨#[]⟩], .int .i64 (a : Int), .bool false]) ?_ rfl (pt_no HN.out HB0.out)
          rw [results_cell_tmp2 (p := 4) (u := 5) (v := 6) (ty := 38) rfl]
          have hl := loadP hk0.out
          simp [asAddr, hl]
  have hF : s[v] = 34 ∨ s[v] = 39 := Classical.not_not.1 hF
  obtain ⟨z, hz⟩ : ∃ z, endW (· != l[v]) l (v + 1) = z := ⟨_, rfl⟩
  have HP4 := Lib.hid (HP3.out.trans (qvl_idx hvll (by rw [HEv]; exact hF) hz))
  have HZ := Lib.hid hz
  have HEvh := Lib.hid HEv
  clear HP3 hz HEv
  have hsn := HSL.out k t gt0 (by have := HSZ.out; omega)
  rcases hF with hF | hF
  · have dF : ((s[v].toNat : Int) != 34) = false := by rw [hF]; decide
    clear hF
    go_enter Tryd.func23, Tryd.ntmps23
    go_wp2_with (go_at_call 29; refine (HBa.out _).mono ?_; rintro _ w9 ⟨rfl, hw9⟩; subst w9; clear HBa)
    go_loopg [8] (s.size + 1) (fun g q wr => ∃ (i : Nat), i + g = s.size + 1 + k ∧ w.alloc (.cells #[.string ⟨#[]⟩, .string ⟨#[]⟩] 38) = wr ∧ q = .int .i64 i ∧ k ≤ i ∧ i ≤ s.size ∧ Hid (endW ltr l i = t))
    case atStart => exact ⟨k, by omega, rfl, rfl, Nat.le_refl _, gk1, HTK⟩
    case round =>
      obtain ⟨i, hkg, hw, rfl, hi5, hi7, HE⟩ := hrel
      subst hw
      by_cases hgo : i < s.size ∧ (97 ≤ (s[i]!.toNat : Int) ∧ (s[i]!.toNat : Int) ≤ 122)
      · obtain ⟨hlt, h97, h122⟩ := hgo
        rw [getElem!_pos s i hlt] at h97 h122
        have hil : i < l.length := by have := HSZ.out; omega
        have e1 := HEL.out i hlt hil
        have hj0 : (0 : Int) ≤ (i : Int) := by omega
        have hj3 : (i : Int) < (s.size : Int) := by omega
        have d1 : decide (97 ≤ (s[i].toNat : Int)) = true := by simpa using h97
        have d2 : decide ((s[i].toNat : Int) ≤ 122) = true := by simpa using h122
        have HE2 := Lib.hid ((endW_go (p := ltr) hil (by rw [e1, ltr_int, d1, d2]; rfl)).symm.trans HE.out)
        clear h97 h122 e1 HE
        go_wp2_with fail
        go_roundg (gk - 1)
        case measure => omega
        case rel => exact ⟨i + 1, by omega, rfl, by go_num, by omega, by omega, HE2⟩
      · have hti : t = i := by
          rw [← HE.out]
          by_cases hlt : i < s.size
          · have hil : i < l.length := by have := HSZ.out; omega
            refine endW_stop hil ?_
            rw [HEL.out i hlt hil, ltr_int]
            by_cases h97 : 97 ≤ (s[i].toNat : Int)
            · have h122 : ¬ (s[i].toNat : Int) ≤ 122 := fun h => hgo ⟨hlt, by rw [getElem!_pos s i hlt]; exact ⟨h97, h⟩⟩
              simp [h122]
            · simp [h97]
          · exact endW_out (by have := HSZ.out; omega)
        subst hti
        clear HE HTK
        have hex : (¬ t < s.size) ∨ (∃ h : t < s.size, ¬ 97 ≤ (s[t].toNat : Int)) ∨ (∃ h : t < s.size, 97 ≤ (s[t].toNat : Int) ∧ ¬ (s[t].toNat : Int) ≤ 122) := by
          by_cases hlt : t < s.size
          · right
            rw [getElem!_pos s t hlt] at hgo
            by_cases h97 : 97 ≤ (s[t].toNat : Int)
            · exact .inr ⟨hlt, h97, fun h => hgo ⟨hlt, h97, h⟩⟩
            · exact .inl ⟨hlt, h97⟩
          · exact .inl hlt
        clear hgo
        have hj0 : (0 : Int) ≤ (t : Int) := by omega
        rcases hex with hx | ⟨hx, hy⟩ | ⟨hx, hy, hz⟩
        · exfalso; omega
        · have hj3 : (t : Int) < (s.size : Int) := by omega
          have dy : decide (97 ≤ (s[t].toNat : Int)) = false := by simpa using hy
          clear hy
          go_wp2_with (first | (go_at_call 29; refine (HBt.out _).mono ?_; rintro _ w9 ⟨rfl, hw9⟩; subst w9; clear HBt) | (go_at_call 29; refine (HBv.out _).mono ?_; rintro _ w9 ⟨rfl, hw9⟩; subst w9; clear HBv))
          go_loopg [11] (s.size + 1) (fun g q wr => ∃ (i : Nat), i + g = s.size + 2 + v ∧ Hid (Below (w.heap.size + 1) (w.alloc (.cells #[.string ⟨#[]⟩, .string ⟨#[]⟩] 38)) wr) ∧ q = .int .i64 i ∧ v + 1 ≤ i ∧ i ≤ s.size ∧ Hid (endW (· != l[v]) l i = z))
          case atStart => exact ⟨v + 1, by omega, Lib.hid (Below.refl _ _), by go_num, Nat.le_refl _, hvl, HZ⟩
          case round =>
            obtain ⟨i, hkg2, HW, rfl, hi8, hi9, HE⟩ := hrel
            have HKr := Lib.hid (hk0.out.below (by simpa using HW.out))
            have HBr := Lib.hid (below_call HB0.out (by simpa using HW.out))
            by_cases hlt : i < s.size
            · have hil : i < l.length := by have := HSZ.out; omega
              have hi0 : (0 : Int) ≤ (i : Int) := by omega
              have hi3 : (i : Int) < (s.size : Int) := by omega
              have e1 := HEL.out i hlt hil
              have e2 := HEvh.out
              by_cases heq : s[i] = s[v]
              · have dq : ((s[i].toNat : Int) == (s[v].toNat : Int)) = true := by rw [heq]; simp
                have hzi : z = i := HE.out.symm.trans (endW_stop hil (by rw [e1, e2, heq]; simp))
                have HN := Lib.hid (HP4.out.trans (if_pos (by rw [hzi]; exact hil)))
                rw [hzi] at HN
                have hsv : ∀ w0 : World, (Instr.slice 9 (.string s) (some (.int .i64 ((v : Int) + 1))) (some (.int .i64 (i : Int))) none).run Tryd.prog w0 = .ok (.string (str ((l.drop (v + 1)).take (i - (v + 1))))) w0 := HSL.out (v + 1) i hi8 (by omega)
                have HLN : Hid ((l.drop (i + 1)).length = l.length - (i + 1)) := Lib.hid (by rw [List.length_drop])
                have HIL := Lib.hid hil
                obtain ⟨nm, hnm⟩ : ∃ nm, (l.drop k).take (t - k) = nm := ⟨_, rfl⟩
                obtain ⟨vv, hvv⟩ : ∃ vv, (l.drop (v + 1)).take (i - (v + 1)) = vv := ⟨_, rfl⟩
                rw [hnm] at HN hsn
                rw [hvv] at HN hsv
                clear hnm hvv heq e1 e2 HE HP4 HSL HZ hzi hil
                go_wp2_with fail
                go_quiet (fail)
                go_wp2_with fail
                have KQ : Hid (Blk (wr.drewN nq).drew w.heap.size #[.string ⟨#[]⟩, .string ⟨#[]⟩] 38) := Lib.hid (HKr.out.below (below_draws (below_draws (Below.refl _ wr) nq) 1))
                have BQ : Hid (Below w.heap.size w (wr.drewN nq).drew) := Lib.hid (below_draws (below_draws HBr.out nq) 1)
                have hkq := HW.out.size
                obtain ⟨wq, hwq⟩ : ∃ wq, wr.drewN nq = wq := ⟨_, rfl⟩
                rw [hwq] at KQ BQ ⊢
                clear hwq hkq
                obtain ⟨q0, q1, q2, q3⟩ := blk2 KQ.out
                have q0' : wq.cell? ⟨w.heap.size, 0, none⟩ = some (.string ⟨#[]⟩) := q0
                have q1' : wq.cell? ⟨w.heap.size, 1, none⟩ = some (.string ⟨#[]⟩) := q1
                have q2' : wq.frozen? ⟨w.heap.size, 0, none⟩ = false := q2
                have q3' : wq.frozen? ⟨w.heap.size, 1, none⟩ = false := q3
                clear c0 c1 f0 f1
                go_region
                all_goals
                  go_wp2_with fail
                  try rw [Exit.noGoto_ret]
                  refine bodyPost_ret (v := .tuple #[.agg #[.string (str nm), .string (str vv)], .int .i64 ((i : Int) + 1), .bool true]) ?_ rfl (pt_yes HN.out (by rw [HLN.out]; have := HIL.out; omega) ((BQ.out.setCell (p := ⟨w.heap.size, 0, none⟩) (Nat.le_refl _) _).setCell (p := ⟨w.heap.size, 1, none⟩) (Nat.le_refl _) _))
                  rw [results_cell_tmp2 (p := 4) (u := 5) (v := 6) (ty := 38) rfl]
                  have hl := loadP (show Blk ((wq.setCell ⟨w.heap.size, 0, none⟩ (.string (str nm))).setCell ⟨w.heap.size, 1, none⟩ (.string (str vv))).drew w.heap.size #[.string (str nm), .string (str vv)] 38 from (KQ.out.set (o := 0) (v := .string (str nm)) rfl).set (o := 1) (v := .string (str vv)) rfl)
                  simp [asAddr, hl]
              · have dq : ((s[i].toNat : Int) == (s[v].toNat : Int)) = false := by
                  have : ¬ (s[i].toNat : Int) = (s[v].toNat : Int) := fun h => heq (u8_lit.1 h)
                  simpa using this
                have HE2 := Lib.hid ((endW_go (p := (· != l[v])) hil (by rw [e1, e2]; simpa using heq)).symm.trans HE.out)
                clear heq e1 e2 HE
                go_wp2_with fail
                go_quiet (fail)
                go_wp2_with fail
                all_goals
                  go_roundg (gk - 1)
                  case measure => omega
                  case rel => exact ⟨i + 1, by omega, Lib.hid (below_draws HW.out _), by go_num, by omega, by omega, HE2⟩
            · have hni : ¬ (i : Int) < (s.size : Int) := by omega
              have hzi : z = i := HE.out.symm.trans (endW_out (by have := HSZ.out; omega))
              have HN := Lib.hid (HP4.out.trans (if_neg (by rw [hzi]; have := HSZ.out; omega)))
              clear HE HP4 HSL HZ hzi
              obtain ⟨c0', c1', f0', f1'⟩ := blk2 HKr.out
              go_wp2_with fail
              refine bodyPost_ret (v := .tuple #[.agg #[.string ⟨#[]⟩, .string ⟨#[]⟩], .int .i64 (a : Int), .bool false]) ?_ rfl (pt_no HN.out ((HBr.out.setCell (p := ⟨w.heap.size, 0, none⟩) (Nat.le_refl _) _).setCell (p := ⟨w.heap.size, 1, none⟩) (Nat.le_refl _) _))
              rw [results_cell_tmp2 (p := 4) (u := 5) (v := 6) (ty := 38) rfl]
              have hl := loadP ((HKr.out.set (o := 0) (v := .string ⟨#[]⟩) rfl).set (o := 1) (v := .string ⟨#[]⟩) rfl)
              simp [asAddr, hl]
        · have hj3 : (t : Int) < (s.size : Int) := by omega
          have dy : decide (97 ≤ (s[t].toNat : Int)) = true := by simpa using hy
          have dz : decide ((s[t].toNat : Int) ≤ 122) = false := by simpa using hz
          clear hy hz
          go_wp2_with (first | (go_at_call 29; refine (HBt.out _).mono ?_; rintro _ w9 ⟨rfl, hw9⟩; subst w9; clear HBt) | (go_at_call 29; refine (HBv.out _).mono ?_; rintro _ w9 ⟨rfl, hw9⟩; subst w9; clear HBv))
          go_loopg [11] (s.size + 1) (fun g q wr => ∃ (i : Nat), i + g = s.size + 2 + v ∧ Hid (Below (w.heap.size + 1) (w.alloc (.cells #[.string ⟨#[]⟩, .string ⟨#[]⟩] 38)) wr) ∧ q = .int .i64 i ∧ v + 1 ≤ i ∧ i ≤ s.size ∧ Hid (endW (· != l[v]) l i = z))
          case atStart => exact ⟨v + 1, by omega, Lib.hid (Below.refl _ _), by go_num, Nat.le_refl _, hvl, HZ⟩
          case round =>
            obtain ⟨i, hkg2, HW, rfl, hi8, hi9, HE⟩ := hrel
            have HKr := Lib.hid (hk0.out.below (by simpa using HW.out))
            have HBr := Lib.hid (below_call HB0.out (by simpa using HW.out))
            by_cases hlt : i < s.size
            · have hil : i < l.length := by have := HSZ.out; omega
              have hi0 : (0 : Int) ≤ (i : Int) := by omega
              have hi3 : (i : Int) < (s.size : Int) := by omega
              have e1 := HEL.out i hlt hil
              have e2 := HEvh.out
              by_cases heq : s[i] = s[v]
              · have dq : ((s[i].toNat : Int) == (s[v].toNat : Int)) = true := by rw [heq]; simp
                have hzi : z = i := HE.out.symm.trans (endW_stop hil (by rw [e1, e2, heq]; simp))
                have HN := Lib.hid (HP4.out.trans (if_pos (by rw [hzi]; exact hil)))
                rw [hzi] at HN
                have hsv : ∀ w0 : World, (Instr.slice 9 (.string s) (some (.int .i64 ((v : Int) + 1))) (some (.int .i64 (i : Int))) none).run Tryd.prog w0 = .ok (.string (str ((l.drop (v + 1)).take (i - (v + 1))))) w0 := HSL.out (v + 1) i hi8 (by omega)
                have HLN : Hid ((l.drop (i + 1)).length = l.length - (i + 1)) := Lib.hid (by rw [List.length_drop])
                have HIL := Lib.hid hil
                obtain ⟨nm, hnm⟩ : ∃ nm, (l.drop k).take (t - k) = nm := ⟨_, rfl⟩
                obtain ⟨vv, hvv⟩ : ∃ vv, (l.drop (v + 1)).take (i - (v + 1)) = vv := ⟨_, rfl⟩
                rw [hnm] at HN hsn
                rw [hvv] at HN hsv
                clear hnm hvv heq e1 e2 HE HP4 HSL HZ hzi hil
                go_wp2_with fail
                go_quiet (fail)
                go_wp2_with fail
                have KQ : Hid (Blk (wr.drewN nq).drew w.heap.size #[.string ⟨#[]⟩, .string ⟨#[]⟩] 38) := Lib.hid (HKr.out.below (below_draws (below_draws (Below.refl _ wr) nq) 1))
                have BQ : Hid (Below w.heap.size w (wr.drewN nq).drew) := Lib.hid (below_draws (below_draws HBr.out nq) 1)
                have hkq := HW.out.size
                obtain ⟨wq, hwq⟩ : ∃ wq, wr.drewN nq = wq := ⟨_, rfl⟩
                rw [hwq] at KQ BQ ⊢
                clear hwq hkq
                obtain ⟨q0, q1, q2, q3⟩ := blk2 KQ.out
                have q0' : wq.cell? ⟨w.heap.size, 0, none⟩ = some (.string ⟨#[]⟩) := q0
                have q1' : wq.cell? ⟨w.heap.size, 1, none⟩ = some (.string ⟨#[]⟩) := q1
                have q2' : wq.frozen? ⟨w.heap.size, 0, none⟩ = false := q2
                have q3' : wq.frozen? ⟨w.heap.size, 1, none⟩ = false := q3
                clear c0 c1 f0 f1
                go_region
                all_goals
                  go_wp2_with fail
                  try rw [Exit.noGoto_ret]
                  refine bodyPost_ret (v := .tuple #[.agg #[.string (str nm), .string (str vv)], .int .i64 ((i : Int) + 1), .bool true]) ?_ rfl (pt_yes HN.out (by rw [HLN.out]; have := HIL.out; omega) ((BQ.out.setCell (p := ⟨w.heap.size, 0, none⟩) (Nat.le_refl _) _).setCell (p := ⟨w.heap.size, 1, none⟩) (Nat.le_refl _) _))
                  rw [results_cell_tmp2 (p := 4) (u := 5) (v := 6) (ty := 38) rfl]
                  have hl := loadP (show Blk ((wq.setCell ⟨w.heap.size, 0, none⟩ (.string (str nm))).setCell ⟨w.heap.size, 1, none⟩ (.string (str vv))).drew w.heap.size #[.string (str nm), .string (str vv)] 38 from (KQ.out.set (o := 0) (v := .string (str nm)) rfl).set (o := 1) (v := .string (str vv)) rfl)
                  simp [asAddr, hl]
              · have dq : ((s[i].toNat : Int) == (s[v].toNat : Int)) = false := by
                  have : ¬ (s[i].toNat : Int) = (s[v].toNat : Int) := fun h => heq (u8_lit.1 h)
                  simpa using this
                have HE2 := Lib.hid ((endW_go (p := (· != l[v])) hil (by rw [e1, e2]; simpa using heq)).symm.trans HE.out)
                clear heq e1 e2 HE
                go_wp2_with fail
                go_quiet (fail)
                go_wp2_with fail
                all_goals
                  go_roundg (gk - 1)
                  case measure => omega
                  case rel => exact ⟨i + 1, by omega, Lib.hid (below_draws HW.out _), by go_num, by omega, by omega, HE2⟩
            · have hni : ¬ (i : Int) < (s.size : Int) := by omega
              have hzi : z = i := HE.out.symm.trans (endW_out (by have := HSZ.out; omega))
              have HN := Lib.hid (HP4.out.trans (if_neg (by rw [hzi]; have := HSZ.out; omega)))
              clear HE HP4 HSL HZ hzi
              obtain ⟨c0', c1', f0', f1'⟩ := blk2 HKr.out
              go_wp2_with fail
              refine bodyPost_ret (v := .tuple #[.agg #[.string ⟨#[]⟩, .string ⟨#[]⟩], .int .i64 (a : Int), .bool false]) ?_ rfl (pt_no HN.out ((HBr.out.setCell (p := ⟨w.heap.size, 0, none⟩) (Nat.le_refl _) _).setCell (p := ⟨w.heap.size, 1, none⟩) (Nat.le_refl _) _))
              rw [results_cell_tmp2 (p := 4) (u := 5) (v := 6) (ty := 38) rfl]
              have hl := loadP ((HKr.out.set (o := 0) (v := .string ⟨#[]⟩) rfl).set (o := 1) (v := .string ⟨#[]⟩) rfl)
              simp [asAddr, hl]
  · have dF : ((s[v].toNat : Int) != 34) = true := by rw [hF]; decide
    have dG : ((s[v].toNat : Int) != 39) = false := by rw [hF]; decide
    clear hF
    go_enter Tryd.func23, Tryd.ntmps23
    go_wp2_with (go_at_call 29; refine (HBa.out _).mono ?_; rintro _ w9 ⟨rfl, hw9⟩; subst w9; clear HBa)
    go_loopg [8] (s.size + 1) (fun g q wr => ∃ (i : Nat), i + g = s.size + 1 + k ∧ w.alloc (.cells #[.string ⟨#[]⟩, .string ⟨#[]⟩] 38) = wr ∧ q = .int .i64 i ∧ k ≤ i ∧ i ≤ s.size ∧ Hid (endW ltr l i = t))
    case atStart => exact ⟨k, by omega, rfl, rfl, Nat.le_refl _, gk1, HTK⟩
    case round =>
      obtain ⟨i, hkg, hw, rfl, hi5, hi7, HE⟩ := hrel
      subst hw
      by_cases hgo : i < s.size ∧ (97 ≤ (s[i]!.toNat : Int) ∧ (s[i]!.toNat : Int) ≤ 122)
      · obtain ⟨hlt, h97, h122⟩ := hgo
        rw [getElem!_pos s i hlt] at h97 h122
        have hil : i < l.length := by have := HSZ.out; omega
        have e1 := HEL.out i hlt hil
        have hj0 : (0 : Int) ≤ (i : Int) := by omega
        have hj3 : (i : Int) < (s.size : Int) := by omega
        have d1 : decide (97 ≤ (s[i].toNat : Int)) = true := by simpa using h97
        have d2 : decide ((s[i].toNat : Int) ≤ 122) = true := by simpa using h122
        have HE2 := Lib.hid ((endW_go (p := ltr) hil (by rw [e1, ltr_int, d1, d2]; rfl)).symm.trans HE.out)
        clear h97 h122 e1 HE
        go_wp2_with fail
        go_roundg (gk - 1)
        case measure => omega
        case rel => exact ⟨i + 1, by omega, rfl, by go_num, by omega, by omega, HE2⟩
      · have hti : t = i := by
          rw [← HE.out]
          by_cases hlt : i < s.size
          · have hil : i < l.length := by have := HSZ.out; omega
            refine endW_stop hil ?_
            rw [HEL.out i hlt hil, ltr_int]
            by_cases h97 : 97 ≤ (s[i].toNat : Int)
            · have h122 : ¬ (s[i].toNat : Int) ≤ 122 := fun h => hgo ⟨hlt, by rw [getElem!_pos s i hlt]; exact ⟨h97, h⟩⟩
              simp [h122]
            · simp [h97]
          · exact endW_out (by have := HSZ.out; omega)
        subst hti
        clear HE HTK
        have hex : (¬ t < s.size) ∨ (∃ h : t < s.size, ¬ 97 ≤ (s[t].toNat : Int)) ∨ (∃ h : t < s.size, 97 ≤ (s[t].toNat : Int) ∧ ¬ (s[t].toNat : Int) ≤ 122) := by
          by_cases hlt : t < s.size
          · right
            rw [getElem!_pos s t hlt] at hgo
            by_cases h97 : 97 ≤ (s[t].toNat : Int)
            · exact .inr ⟨hlt, h97, fun h => hgo ⟨hlt, h97, h⟩⟩
            · exact .inl ⟨hlt, h97⟩
          · exact .inl hlt
        clear hgo
        have hj0 : (0 : Int) ≤ (t : Int) := by omega
        rcases hex with hx | ⟨hx, hy⟩ | ⟨hx, hy, hz⟩
        · exfalso; omega
        · have hj3 : (t : Int) < (s.size : Int) := by omega
          have dy : decide (97 ≤ (s[t].toNat : Int)) = false := by simpa using hy
          clear hy
          go_wp2_with (first | (go_at_call 29; refine (HBt.out _).mono ?_; rintro _ w9 ⟨rfl, hw9⟩; subst w9; clear HBt) | (go_at_call 29; refine (HBv.out _).mono ?_; rintro _ w9 ⟨rfl, hw9⟩; subst w9; clear HBv))
          go_loopg [11] (s.size + 1) (fun g q wr => ∃ (i : Nat), i + g = s.size + 2 + v ∧ Hid (Below (w.heap.size + 1) (w.alloc (.cells #[.string ⟨#[]⟩, .string ⟨#[]⟩] 38)) wr) ∧ q = .int .i64 i ∧ v + 1 ≤ i ∧ i ≤ s.size ∧ Hid (endW (· != l[v]) l i = z))
          case atStart => exact ⟨v + 1, by omega, Lib.hid (Below.refl _ _), by go_num, Nat.le_refl _, hvl, HZ⟩
          case round =>
            obtain ⟨i, hkg2, HW, rfl, hi8, hi9, HE⟩ := hrel
            have HKr := Lib.hid (hk0.out.below (by simpa using HW.out))
            have HBr := Lib.hid (below_call HB0.out (by simpa using HW.out))
            by_cases hlt : i < s.size
            · have hil : i < l.length := by have := HSZ.out; omega
              have hi0 : (0 : Int) ≤ (i : Int) := by omega
              have hi3 : (i : Int) < (s.size : Int) := by omega
              have e1 := HEL.out i hlt hil
              have e2 := HEvh.out
              by_cases heq : s[i] = s[v]
              · have dq : ((s[i].toNat : Int) == (s[v].toNat : Int)) = true := by rw [heq]; simp
                have hzi : z = i := HE.out.symm.trans (endW_stop hil (by rw [e1, e2, heq]; simp))
                have HN := Lib.hid (HP4.out.trans (if_pos (by rw [hzi]; exact hil)))
                rw [hzi] at HN
                have hsv : ∀ w0 : World, (Instr.slice 9 (.string s) (some (.int .i64 ((v : Int) + 1))) (some (.int .i64 (i : Int))) none).run Tryd.prog w0 = .ok (.string (str ((l.drop (v + 1)).take (i - (v + 1))))) w0 := HSL.out (v + 1) i hi8 (by omega)
                have HLN : Hid ((l.drop (i + 1)).length = l.length - (i + 1)) := Lib.hid (by rw [List.length_drop])
                have HIL := Lib.hid hil
                obtain ⟨nm, hnm⟩ : ∃ nm, (l.drop k).take (t - k) = nm := ⟨_, rfl⟩
                obtain ⟨vv, hvv⟩ : ∃ vv, (l.drop (v + 1)).take (i - (v + 1)) = vv := ⟨_, rfl⟩
                rw [hnm] at HN hsn
                rw [hvv] at HN hsv
                clear hnm hvv heq e1 e2 HE HP4 HSL HZ hzi hil
                go_wp2_with fail
                go_quiet (fail)
                go_wp2_with fail
                have KQ : Hid (Blk (wr.drewN nq).drew w.heap.size #[.string ⟨#[]⟩, .string ⟨#[]⟩] 38) := Lib.hid (HKr.out.below (below_draws (below_draws (Below.refl _ wr) nq) 1))
                have BQ : Hid (Below w.heap.size w (wr.drewN nq).drew) := Lib.hid (below_draws (below_draws HBr.out nq) 1)
                have hkq := HW.out.size
                obtain ⟨wq, hwq⟩ : ∃ wq, wr.drewN nq = wq := ⟨_, rfl⟩
                rw [hwq] at KQ BQ ⊢
                clear hwq hkq
                obtain ⟨q0, q1, q2, q3⟩ := blk2 KQ.out
                have q0' : wq.cell? ⟨w.heap.size, 0, none⟩ = some (.string ⟨#[]⟩) := q0
                have q1' : wq.cell? ⟨w.heap.size, 1, none⟩ = some (.string ⟨#[]⟩) := q1
                have q2' : wq.frozen? ⟨w.heap.size, 0, none⟩ = false := q2
                have q3' : wq.frozen? ⟨w.heap.size, 1, none⟩ = false := q3
                clear c0 c1 f0 f1
                go_region
                all_goals
                  go_wp2_with fail
                  try rw [Exit.noGoto_ret]
                  refine bodyPost_ret (v := .tuple #[.agg #[.string (str nm), .string (str vv)], .int .i64 ((i : Int) + 1), .bool true]) ?_ rfl (pt_yes HN.out (by rw [HLN.out]; have := HIL.out; omega) ((BQ.out.setCell (p := ⟨w.heap.size, 0, none⟩) (Nat.le_refl _) _).setCell (p := ⟨w.heap.size, 1, none⟩) (Nat.le_refl _) _))
                  rw [results_cell_tmp2 (p := 4) (u := 5) (v := 6) (ty := 38) rfl]
                  have hl := loadP (show Blk ((wq.setCell ⟨w.heap.size, 0, none⟩ (.string (str nm))).setCell ⟨w.heap.size, 1, none⟩ (.string (str vv))).drew w.heap.size #[.string (str nm), .string (str vv)] 38 from (KQ.out.set (o := 0) (v := .string (str nm)) rfl).set (o := 1) (v := .string (str vv)) rfl)
                  simp [asAddr, hl]
              · have dq : ((s[i].toNat : Int) == (s[v].toNat : Int)) = false := by
                  have : ¬ (s[i].toNat : Int) = (s[v].toNat : Int) := fun h => heq (u8_lit.1 h)
                  simpa using this
                have HE2 := Lib.hid ((endW_go (p := (· != l[v])) hil (by rw [e1, e2]; simpa using heq)).symm.trans HE.out)
                clear heq e1 e2 HE
                go_wp2_with fail
                go_quiet (fail)
                go_wp2_with fail
                all_goals
                  go_roundg (gk - 1)
                  case measure => omega
                  case rel => exact ⟨i + 1, by omega, Lib.hid (below_draws HW.out _), by go_num, by omega, by omega, HE2⟩
            · have hni : ¬ (i : Int) < (s.size : Int) := by omega
              have hzi : z = i := HE.out.symm.trans (endW_out (by have := HSZ.out; omega))
              have HN := Lib.hid (HP4.out.trans (if_neg (by rw [hzi]; have := HSZ.out; omega)))
              clear HE HP4 HSL HZ hzi
              obtain ⟨c0', c1', f0', f1'⟩ := blk2 HKr.out
              go_wp2_with fail
              refine bodyPost_ret (v := .tuple #[.agg #[.string ⟨#[]⟩, .string ⟨#[]⟩], .int .i64 (a : Int), .bool false]) ?_ rfl (pt_no HN.out ((HBr.out.setCell (p := ⟨w.heap.size, 0, none⟩) (Nat.le_refl _) _).setCell (p := ⟨w.heap.size, 1, none⟩) (Nat.le_refl _) _))
              rw [results_cell_tmp2 (p := 4) (u := 5) (v := 6) (ty := 38) rfl]
              have hl := loadP ((HKr.out.set (o := 0) (v := .string ⟨#[]⟩) rfl).set (o := 1) (v := .string ⟨#[]⟩) rfl)
              simp [asAddr, hl]
        · have hj3 : (t : Int) < (s.size : Int) := by omega
          have dy : decide (97 ≤ (s[t].toNat : Int)) = true := by simpa using hy
          have dz : decide ((s[t].toNat : Int) ≤ 122) = false := by simpa using hz
          clear hy hz
          go_wp2_with (first | (go_at_call 29; refine (HBt.out _).mono ?_; rintro _ w9 ⟨rfl, hw9⟩; subst w9; clear HBt) | (go_at_call 29; refine (HBv.out _).mono ?_; rintro _ w9 ⟨rfl, hw9⟩; subst w9; clear HBv))
          go_loopg [11] (s.size + 1) (fun g q wr => ∃ (i : Nat), i + g = s.size + 2 + v ∧ Hid (Below (w.heap.size + 1) (w.alloc (.cells #[.string ⟨#[]⟩, .string ⟨#[]⟩] 38)) wr) ∧ q = .int .i64 i ∧ v + 1 ≤ i ∧ i ≤ s.size ∧ Hid (endW (· != l[v]) l i = z))
          case atStart => exact ⟨v + 1, by omega, Lib.hid (Below.refl _ _), by go_num, Nat.le_refl _, hvl, HZ⟩
          case round =>
            obtain ⟨i, hkg2, HW, rfl, hi8, hi9, HE⟩ := hrel
            have HKr := Lib.hid (hk0.out.below (by simpa using HW.out))
            have HBr := Lib.hid (below_call HB0.out (by simpa using HW.out))
            by_cases hlt : i < s.size
            · have hil : i < l.length := by have := HSZ.out; omega
              have hi0 : (0 : Int) ≤ (i : Int) := by omega
              have hi3 : (i : Int) < (s.size : Int) := by omega
              have e1 := HEL.out i hlt hil
              have e2 := HEvh.out
              by_cases heq : s[i] = s[v]
              · have dq : ((s[i].toNat : Int) == (s[v].toNat : Int)) = true := by rw [heq]; simp
                have hzi : z = i := HE.out.symm.trans (endW_stop hil (by rw [e1, e2, heq]; simp))
                have HN := Lib.hid (HP4.out.trans (if_pos (by rw [hzi]; exact hil)))
                rw [hzi] at HN
                have hsv : ∀ w0 : World, (Instr.slice 9 (.string s) (some (.int .i64 ((v : Int) + 1))) (some (.int .i64 (i : Int))) none).run Tryd.prog w0 = .ok (.string (str ((l.drop (v + 1)).take (i - (v + 1))))) w0 := HSL.out (v + 1) i hi8 (by omega)
                have HLN : Hid ((l.drop (i + 1)).length = l.length - (i + 1)) := Lib.hid (by rw [List.length_drop])
                have HIL := Lib.hid hil
                obtain ⟨nm, hnm⟩ : ∃ nm, (l.drop k).take (t - k) = nm := ⟨_, rfl⟩
                obtain ⟨vv, hvv⟩ : ∃ vv, (l.drop (v + 1)).take (i - (v + 1)) = vv := ⟨_, rfl⟩
                rw [hnm] at HN hsn
                rw [hvv] at HN hsv
                clear hnm hvv heq e1 e2 HE HP4 HSL HZ hzi hil
                go_wp2_with fail
                go_quiet (fail)
                go_wp2_with fail
                have KQ : Hid (Blk (wr.drewN nq).drew w.heap.size #[.string ⟨#[]⟩, .string ⟨#[]⟩] 38) := Lib.hid (HKr.out.below (below_draws (below_draws (Below.refl _ wr) nq) 1))
                have BQ : Hid (Below w.heap.size w (wr.drewN nq).drew) := Lib.hid (below_draws (below_draws HBr.out nq) 1)
                have hkq := HW.out.size
                obtain ⟨wq, hwq⟩ : ∃ wq, wr.drewN nq = wq := ⟨_, rfl⟩
                rw [hwq] at KQ BQ ⊢
                clear hwq hkq
                obtain ⟨q0, q1, q2, q3⟩ := blk2 KQ.out
                have q0' : wq.cell? ⟨w.heap.size, 0, none⟩ = some (.string ⟨#[]⟩) := q0
                have q1' : wq.cell? ⟨w.heap.size, 1, none⟩ = some (.string ⟨#[]⟩) := q1
                have q2' : wq.frozen? ⟨w.heap.size, 0, none⟩ = false := q2
                have q3' : wq.frozen? ⟨w.heap.size, 1, none⟩ = false := q3
                clear c0 c1 f0 f1
                go_region
                all_goals
                  go_wp2_with fail
                  try rw [Exit.noGoto_ret]
                  refine bodyPost_ret (v := .tuple #[.agg #[.string (str nm), .string (str vv)], .int .i64 ((i : Int) + 1), .bool true]) ?_ rfl (pt_yes HN.out (by rw [HLN.out]; have := HIL.out; omega) ((BQ.out.setCell (p := ⟨w.heap.size, 0, none⟩) (Nat.le_refl _) _).setCell (p := ⟨w.heap.size, 1, none⟩) (Nat.le_refl _) _))
                  rw [results_cell_tmp2 (p := 4) (u := 5) (v := 6) (ty := 38) rfl]
                  have hl := loadP (show Blk ((wq.setCell ⟨w.heap.size, 0, none⟩ (.string (str nm))).setCell ⟨w.heap.size, 1, none⟩ (.string (str vv))).drew w.heap.size #[.string (str nm), .string (str vv)] 38 from (KQ.out.set (o := 0) (v := .string (str nm)) rfl).set (o := 1) (v := .string (str vv)) rfl)
                  simp [asAddr, hl]
              · have dq : ((s[i].toNat : Int) == (s[v].toNat : Int)) = false := by
                  have : ¬ (s[i].toNat : Int) = (s[v].toNat : Int) := fun h => heq (u8_lit.1 h)
                  simpa using this
                have HE2 := Lib.hid ((endW_go (p := (· != l[v])) hil (by rw [e1, e2]; simpa using heq)).symm.trans HE.out)
                clear heq e1 e2 HE
                go_wp2_with fail
                go_quiet (fail)
                go_wp2_with fail
                all_goals
                  go_roundg (gk - 1)
                  case measure => omega
                  case rel => exact ⟨i + 1, by omega, Lib.hid (below_draws HW.out _), by go_num, by omega, by omega, HE2⟩
            · have hni : ¬ (i : Int) < (s.size : Int) := by omega
              have hzi : z = i := HE.out.symm.trans (endW_out (by have := HSZ.out; omega))
              have HN := Lib.hid (HP4.out.trans (if_neg (by rw [hzi]; have := HSZ.out; omega)))
              clear HE HP4 HSL HZ hzi
              obtain ⟨c0', c1', f0', f1'⟩ := blk2 HKr.out
              go_wp2_with fail
              refine bodyPost_ret (v := .tuple #[.agg #[.string ⟨#[]⟩, .string ⟨#[]⟩], .int .i64 (a : Int), .bool false]) ?_ rfl (pt_no HN.out ((HBr.out.setCell (p := ⟨w.heap.size, 0, none⟩) (Nat.le_refl _) _).setCell (p := ⟨w.heap.size, 1, none⟩) (Nat.le_refl _) _))
              rw [results_cell_tmp2 (p := 4) (u := 5) (v := 6) (ty := 38) rfl]
              have hl := loadP ((HKr.out.set (o := 0) (v := .string ⟨#[]⟩) rfl).set (o := 1) (v := .string ⟨#[]⟩) rfl)
              simp [asAddr, hl]
end Go.Proofs.YtdkfbikpadehdaaDoor.Dec
