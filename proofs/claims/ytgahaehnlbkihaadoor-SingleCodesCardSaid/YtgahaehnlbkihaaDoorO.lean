/- The contracts of Decode. -/
import Derived.Test.YtgahaehnlbkihaaDoorN
import Derived.Maps.Own
import Derived.Maps.OwnSet
import Derived.Deep.WholeRow
import Derived.Deep.OwnRows
namespace Go.Proofs.YtgahaehnlbkihaaDoor
open Go.RowKit Go.Maps
set_option linter.unusedVariables false
set_option linter.unusedSimpArgs false
theorem range_map_get (l : List UInt8) (f : UInt8 → Int) : (List.range l.length).map (fun i => f (l[i]?.getD 0)) = l.map f := by
  apply List.ext_getElem
  · simp
  · intro i h1 h2
    have hi : i < l.length := by simpa using h2
    simp [hi]
/-- The scalars of bytes. -/
def mp (e : Int) (s : ByteArray) : List Int := s.data.toList.map fun c => scE e c.toNat
theorem mp_len (e : Int) (s : ByteArray) : (mp e s).length = s.size := by simp [mp]
theorem isB_sc {e : Int} (h : isE e = true) {b : Nat} (hb : b < 256) : isB (scE e b) = true := by
  have := sc_bd e (isE_mem h) b hb
  exact isB_iff.2 (by omega)
theorem allB_mp {e : Int} (h : isE e = true) (s : ByteArray) : allB (mp e s) = true := by
  unfold allB mp
  rw [List.all_eq_true]
  intro x hx
  obtain ⟨c, _, rfl⟩ := List.mem_map.1 hx
  exact isB_sc h c.toNat_lt
def gS (e : Int) (s : ByteArray) (i : Nat) : Int := scE e (s.data.toList[i]?.getD 0).toNat
theorem gS_at (e : Int) (s : ByteArray) {k : Nat} (h : k < s.size) : gS e s k = scE e s[k].toNat := by
  unfold gS
  have : s.data.toList[k]? = some s[k] := by
    have h2 : k < s.data.toList.length := by simpa using h
    rw [List.getElem?_eq_getElem h2]; rfl
  rw [this]; rfl
theorem gS_mp (e : Int) (s : ByteArray) : (List.range s.size).map (gS e s) = mp e s := by
  have := range_map_get s.data.toList (fun c => scE e c.toNat)
  have hl : s.data.toList.length = s.size := by simp
  rw [hl] at this
  exact this
/-- What Decode tells. -/
def decT (e : Int) (s : ByteArray) : ByteArray := if isE e = true then str (encs (mp e s)) else ⟨#[]⟩
def decC (e : Int) : Int := if isE e = true then 0 else 2
def DecS (e : Int) (s : ByteArray) (w : World) (x : Ending) (w' : World) : Prop := x = .returned (.tuple #[.string (decT e s), .int .i64 (decC e)]) ∧ Below w.heap.size w w'
theorem dec_no {e : Int} {s : ByteArray} {w w' : World} (h : isE e = false) (hb : Below w.heap.size w w') : DecS e s w (.returned (.tuple #[.string ⟨#[]⟩, .int .i64 2])) w' := ⟨by unfold decT decC; rw [h]; rfl, hb⟩
theorem dec_is {e : Int} {s : ByteArray} {w w' : World} (h : isE e = true) (hb : Below w.heap.size w w') : DecS e s w (.returned (.tuple #[.string (str (encs (mp e s))), .int .i64 0])) w' := ⟨by unfold decT decC; rw [h]; rfl, hb⟩
theorem text_of {w w' : World} {xs : List Int} {e : Ending} (h : allB xs = true) (ht : TextS w xs e w') : e = .returned (.tuple #[.string (str (encs xs)), .bool true]) ∧ Below w.heap.size w w' := by
  unfold TextS at ht
  simpa [h] using ht
set_option maxRecDepth 100000 in
theorem fdecode_3 (s : ByteArray) (w : World) (hG : Gl w) (hs : s.size ≤ 4000) : Calls Tryd.prog 6 #[.int .i8 3, .string s] w fun e w' => DecS 3 s w e w' := by
  have HGL := Lib.hid hG
  have HS := Lib.hid (scalars_any w)
  have HT := Lib.hid tl_3
  have HI : Hid (isE 3 = true) := Lib.hid rfl
  have HAB : Hid (allB (mp 3 s) = true) := Lib.hid (allB_mp rfl s)
  have HMP := Lib.hid (gS_mp 3 s)
  have HL := Lib.hid (mp_len 3 s)
  have hfv := fvr_3
  obtain ⟨rv, hrv⟩ : ∃ v, rval 3 = v := ⟨_, rfl⟩
  rw [hrv] at hfv HT
  have HV := Lib.hid hfv
  clear hrv hfv hG
  obtain ⟨i0, hi, hz0, hz1, hz2⟩ := info_parts info3
  have hmk := run_make_row (P := Tryd.prog) 30 3 i0 _ Tryd.underlying30 hi hz0 hz1 rfl .i64 .i64 s.size (by rw [hz2]; omega) (by omega)
  go_enter Tryd.func6, Tryd.ntmps6
  go_wp2_with (go_at_call 13; refine HS.out.mono ?_; rintro e w1 ⟨g, rfl, hl, hb1⟩; replace hl := hl 3 (by decide); rw [HV.out, HI.out] at hl; have HB1 := Lib.hid hb1; have HR0 : Hid ((w1.alloc (.cells (madeCells #[.int .i64 0] s.size) 3)).rowIs w1.heap.size 3 s.size (tabF (gS 3 s) 0)) := Lib.hid ((World.rowIs_made w1 (.int .i64 0) s.size 3).congr fun i _ => (tabF_out (by omega)).symm); have HB0 : Hid (Below w.heap.size w (w1.alloc (.cells (madeCells #[.int .i64 0] s.size) 3))) := Lib.hid (hb1.alloc hb1.size _); clear hb1)
  clear hl hmk
  go_loopg [25] (s.size + 1) (fun gh q wr => ∃ (k : Nat), k + gh = s.size + 1 ∧ q = .int .i64 k ∧ k ≤ s.size ∧ Hid (wr.rowIs w1.heap.size 3 s.size (tabF (gS 3 s) k)) ∧ Hid (Below w.heap.size w wr))
  case atStart => exact ⟨0, by omega, rfl, by omega, HR0, HB0⟩
  case round =>
    obtain ⟨k, hkg, rfl, hk7, HR, HB⟩ := hrel
    by_cases hk : k < s.size
    · have hb := s[k].toNat_lt
      have HC := Lib.hid (HT.out s[k].toNat hb)
      have hcl := HR.out.cell hk
      rw [tabF_out (by omega)] at hcl
      have HCL := Lib.hid hcl
      have HFR := Lib.hid (HR.out.frozen k)
      obtain ⟨c, hc⟩ : ∃ c, scE 3 s[k].toNat = c := ⟨_, rfl⟩
      have HGS : Hid (gS 3 s k = c) := Lib.hid ((gS_at 3 s hk).trans hc)
      have hrlt := HR.out.lt
      rw [hc] at HC
      clear hc hcl
      go_wp2_with (go_at_call 21; refine (HC.out _).mono ?_; rintro e w2 ⟨rfl, hb2⟩; have HB2 := Lib.hid hb2; have hcl := (hb2.cell (p := ⟨w1.heap.size, k, none⟩) hrlt).trans HCL.out; have hfr := (row_below HR.out hb2).frozen k; clear hb2)
      have HR2 : Hid ((w2.setCell ⟨w1.heap.size, k, none⟩ (.int .i64 c)).rowIs w1.heap.size 3 s.size (tabF (gS 3 s) (k + 1))) := Lib.hid (by
        have := tabF_set (row_below HR.out HB2.out)
        rwa [HGS.out] at this)
      have HB3 : Hid (Below w.heap.size w (w2.setCell ⟨w1.heap.size, k, none⟩ (.int .i64 c))) := Lib.hid ((below_call HB.out HB2.out).setCell HB1.out.size _)
      go_roundg (gk - 1)
      case measure => omega
      case rel => exact ⟨k + 1, by omega, by go_num, by omega, HR2, HB3⟩
    · have hk' : k = s.size := by omega
      subst hk'
      have HTX := Lib.hid (text_any (.slice (some ⟨w1.heap.size, 0, none⟩) s.size s.size) (mp 3 s) wr (HGL.out.below' HB.out) (by
        have := ints_of_row HR.out s.size
        rwa [HMP.out] at this) (by rw [HL.out]; omega))
      go_wp2_with (go_at_call 14; refine HTX.out.mono ?_; rintro e w3 ht; obtain ⟨rfl, hb3⟩ := text_of HAB.out ht; have HB3 := Lib.hid hb3; clear hb3 ht)
      go_ret2
      exact dec_is HI.out (below_call HB.out HB3.out)
set_option maxRecDepth 100000 in
theorem fdecode_4 (s : ByteArray) (w : World) (hG : Gl w) (hs : s.size ≤ 4000) : Calls Tryd.prog 6 #[.int .i8 4, .string s] w fun e w' => DecS 4 s w e w' := by
  have HGL := Lib.hid hG
  have HS := Lib.hid (scalars_any w)
  have HT := Lib.hid tl_4
  have HI : Hid (isE 4 = true) := Lib.hid rfl
  have HAB : Hid (allB (mp 4 s) = true) := Lib.hid (allB_mp rfl s)
  have HMP := Lib.hid (gS_mp 4 s)
  have HL := Lib.hid (mp_len 4 s)
  have hfv := fvr_4
  obtain ⟨rv, hrv⟩ : ∃ v, rval 4 = v := ⟨_, rfl⟩
  rw [hrv] at hfv HT
  have HV := Lib.hid hfv
  clear hrv hfv hG
  obtain ⟨i0, hi, hz0, hz1, hz2⟩ := info_parts info3
  have hmk := run_make_row (P := Tryd.prog) 30 3 i0 _ Tryd.underlying30 hi hz0 hz1 rfl .i64 .i64 s.size (by rw [hz2]; omega) (by omega)
  go_enter Tryd.func6, Tryd.ntmps6
  go_wp2_with (go_at_call 13; refine HS.out.mono ?_; rintro e w1 ⟨g, rfl, hl, hb1⟩; replace hl := hl 4 (by decide); rw [HV.out, HI.out] at hl; have HB1 := Lib.hid hb1; have HR0 : Hid ((w1.alloc (.cells (madeCells #[.int .i64 0] s.size) 3)).rowIs w1.heap.size 3 s.size (tabF (gS 4 s) 0)) := Lib.hid ((World.rowIs_made w1 (.int .i64 0) s.size 3).congr fun i _ => (tabF_out (by omega)).symm); have HB0 : Hid (Below w.heap.size w (w1.alloc (.cells (madeCells #[.int .i64 0] s.size) 3))) := Lib.hid (hb1.alloc hb1.size _); clear hb1)
  clear hl hmk
  go_loopg [25] (s.size + 1) (fun gh q wr => ∃ (k : Nat), k + gh = s.size + 1 ∧ q = .int .i64 k ∧ k ≤ s.size ∧ Hid (wr.rowIs w1.heap.size 3 s.size (tabF (gS 4 s) k)) ∧ Hid (Below w.heap.size w wr))
  case atStart => exact ⟨0, by omega, rfl, by omega, HR0, HB0⟩
  case round =>
    obtain ⟨k, hkg, rfl, hk7, HR, HB⟩ := hrel
    by_cases hk : k < s.size
    · have hb := s[k].toNat_lt
      have HC := Lib.hid (HT.out s[k].toNat hb)
      have hcl := HR.out.cell hk
      rw [tabF_out (by omega)] at hcl
      have HCL := Lib.hid hcl
      have HFR := Lib.hid (HR.out.frozen k)
      obtain ⟨c, hc⟩ : ∃ c, scE 4 s[k].toNat = c := ⟨_, rfl⟩
      have HGS : Hid (gS 4 s k = c) := Lib.hid ((gS_at 4 s hk).trans hc)
      have hrlt := HR.out.lt
      rw [hc] at HC
      clear hc hcl
      go_wp2_with (go_at_call 22; refine (HC.out _).mono ?_; rintro e w2 ⟨rfl, hb2⟩; have HB2 := Lib.hid hb2; have hcl := (hb2.cell (p := ⟨w1.heap.size, k, none⟩) hrlt).trans HCL.out; have hfr := (row_below HR.out hb2).frozen k; clear hb2)
      have HR2 : Hid ((w2.setCell ⟨w1.heap.size, k, none⟩ (.int .i64 c)).rowIs w1.heap.size 3 s.size (tabF (gS 4 s) (k + 1))) := Lib.hid (by
        have := tabF_set (row_below HR.out HB2.out)
        rwa [HGS.out] at this)
      have HB3 : Hid (Below w.heap.size w (w2.setCell ⟨w1.heap.size, k, none⟩ (.int .i64 c))) := Lib.hid ((below_call HB.out HB2.out).setCell HB1.out.size _)
      go_roundg (gk - 1)
      case measure => omega
      case rel => exact ⟨k + 1, by omega, by go_num, by omega, HR2, HB3⟩
    · have hk' : k = s.size := by omega
      subst hk'
      have HTX := Lib.hid (text_any (.slice (some ⟨w1.heap.size, 0, none⟩) s.size s.size) (mp 4 s) wr (HGL.out.below' HB.out) (by
        have := ints_of_row HR.out s.size
        rwa [HMP.out] at this) (by rw [HL.out]; omega))
      go_wp2_with (go_at_call 14; refine HTX.out.mono ?_; rintro e w3 ht; obtain ⟨rfl, hb3⟩ := text_of HAB.out ht; have HB3 := Lib.hid hb3; clear hb3 ht)
      go_ret2
      exact dec_is HI.out (below_call HB.out HB3.out)
set_option maxRecDepth 100000 in
theorem fdecode_5 (s : ByteArray) (w : World) (hG : Gl w) (hs : s.size ≤ 4000) : Calls Tryd.prog 6 #[.int .i8 5, .string s] w fun e w' => DecS 5 s w e w' := by
  have HGL := Lib.hid hG
  have HS := Lib.hid (scalars_any w)
  have HT := Lib.hid tl_5
  have HI : Hid (isE 5 = true) := Lib.hid rfl
  have HAB : Hid (allB (mp 5 s) = true) := Lib.hid (allB_mp rfl s)
  have HMP := Lib.hid (gS_mp 5 s)
  have HL := Lib.hid (mp_len 5 s)
  have hfv := fvr_5
  obtain ⟨rv, hrv⟩ : ∃ v, rval 5 = v := ⟨_, rfl⟩
  rw [hrv] at hfv HT
  have HV := Lib.hid hfv
  clear hrv hfv hG
  obtain ⟨i0, hi, hz0, hz1, hz2⟩ := info_parts info3
  have hmk := run_make_row (P := Tryd.prog) 30 3 i0 _ Tryd.underlying30 hi hz0 hz1 rfl .i64 .i64 s.size (by rw [hz2]; omega) (by omega)
  go_enter Tryd.func6, Tryd.ntmps6
  go_wp2_with (go_at_call 13; refine HS.out.mono ?_; rintro e w1 ⟨g, rfl, hl, hb1⟩; replace hl := hl 5 (by decide); rw [HV.out, HI.out] at hl; have HB1 := Lib.hid hb1; have HR0 : Hid ((w1.alloc (.cells (madeCells #[.int .i64 0] s.size) 3)).rowIs w1.heap.size 3 s.size (tabF (gS 5 s) 0)) := Lib.hid ((World.rowIs_made w1 (.int .i64 0) s.size 3).congr fun i _ => (tabF_out (by omega)).symm); have HB0 : Hid (Below w.heap.size w (w1.alloc (.cells (madeCells #[.int .i64 0] s.size) 3))) := Lib.hid (hb1.alloc hb1.size _); clear hb1)
  clear hl hmk
  go_loopg [25] (s.size + 1) (fun gh q wr => ∃ (k : Nat), k + gh = s.size + 1 ∧ q = .int .i64 k ∧ k ≤ s.size ∧ Hid (wr.rowIs w1.heap.size 3 s.size (tabF (gS 5 s) k)) ∧ Hid (Below w.heap.size w wr))
  case atStart => exact ⟨0, by omega, rfl, by omega, HR0, HB0⟩
  case round =>
    obtain ⟨k, hkg, rfl, hk7, HR, HB⟩ := hrel
    by_cases hk : k < s.size
    · have hb := s[k].toNat_lt
      have HC := Lib.hid (HT.out s[k].toNat hb)
      have hcl := HR.out.cell hk
      rw [tabF_out (by omega)] at hcl
      have HCL := Lib.hid hcl
      have HFR := Lib.hid (HR.out.frozen k)
      obtain ⟨c, hc⟩ : ∃ c, scE 5 s[k].toNat = c := ⟨_, rfl⟩
      have HGS : Hid (gS 5 s k = c) := Lib.hid ((gS_at 5 s hk).trans hc)
      have hrlt := HR.out.lt
      rw [hc] at HC
      clear hc hcl
      go_wp2_with (go_at_call 22; refine (HC.out _).mono ?_; rintro e w2 ⟨rfl, hb2⟩; have HB2 := Lib.hid hb2; have hcl := (hb2.cell (p := ⟨w1.heap.size, k, none⟩) hrlt).trans HCL.out; have hfr := (row_below HR.out hb2).frozen k; clear hb2)
      have HR2 : Hid ((w2.setCell ⟨w1.heap.size, k, none⟩ (.int .i64 c)).rowIs w1.heap.size 3 s.size (tabF (gS 5 s) (k + 1))) := Lib.hid (by
        have := tabF_set (row_below HR.out HB2.out)
        rwa [HGS.out] at this)
      have HB3 : Hid (Below w.heap.size w (w2.setCell ⟨w1.heap.size, k, none⟩ (.int .i64 c))) := Lib.hid ((below_call HB.out HB2.out).setCell HB1.out.size _)
      go_roundg (gk - 1)
      case measure => omega
      case rel => exact ⟨k + 1, by omega, by go_num, by omega, HR2, HB3⟩
    · have hk' : k = s.size := by omega
      subst hk'
      have HTX := Lib.hid (text_any (.slice (some ⟨w1.heap.size, 0, none⟩) s.size s.size) (mp 5 s) wr (HGL.out.below' HB.out) (by
        have := ints_of_row HR.out s.size
        rwa [HMP.out] at this) (by rw [HL.out]; omega))
      go_wp2_with (go_at_call 14; refine HTX.out.mono ?_; rintro e w3 ht; obtain ⟨rfl, hb3⟩ := text_of HAB.out ht; have HB3 := Lib.hid hb3; clear hb3 ht)
      go_ret2
      exact dec_is HI.out (below_call HB.out HB3.out)
theorem fdecode_no (e : Int) (hwf : (Lit.int .i8 e).wf = true) (h : isE e = false) (s : ByteArray) (w : World) : Calls Tryd.prog 6 #[.int .i8 e, .string s] w fun x w' => DecS e s w x w' := by
  have HS := Lib.hid (scalars_any w)
  have HV := Lib.hid (fval_no h)
  have HI := Lib.hid h
  have HW := Lib.hid hwf
  clear h hwf
  go_enter Tryd.func6, Tryd.ntmps6
  go_wp2_with (go_at_call 13; refine HS.out.mono ?_; rintro e w1 ⟨g, rfl, hl, hb1⟩; replace hl := hl _ HW.out; rw [HV.out, HI.out] at hl; have HB1 := Lib.hid hb1; clear hb1)
  go_ret2
  exact dec_no HI.out HB1.out
theorem fdecode_any (e : Int) (hwf : (Lit.int .i8 e).wf = true) (s : ByteArray) (w : World) (hG : Gl w) (hs : s.size ≤ 4000) : Calls Tryd.prog 6 #[.int .i8 e, .string s] w fun x w' => DecS e s w x w' := by
  cases h : isE e
  · exact fdecode_no e hwf h s w
  · rcases isE_iff.1 h with rfl | rfl | rfl
    · exact fdecode_3 s w hG hs
    · exact fdecode_4 s w hG hs
    · exact fdecode_5 s w hG hs
theorem rtable_no (e : Int) (h : isE e = false) (w : World) : Calls Tryd.prog 15 #[.int .i8 e] w fun x w' => ∃ p c, x = .returned (.slice p 0 c) ∧ Below w.heap.size w w' := by
  refine (rtable_any e w).mono ?_
  rintro x w' ⟨v, rfl, hv, hb⟩
  rw [tbl_isnt h] at hv
  obtain ⟨p, c, rfl⟩ := hv.form
  exact ⟨p, c, rfl, hb⟩
theorem rtable_is (e : Int) (h : isE e = true) (w : World) : Calls Tryd.prog 15 #[.int .i8 e] w fun x w' => ∃ b off cap, x = .returned (.slice (some ⟨b, off, none⟩) 256 cap) ∧ b < w'.heap.size ∧ (∀ k : Nat, k < 256 → w'.cell? ⟨b, off + k, none⟩ = some (.int .i64 (scE e k))) ∧ Below w.heap.size w w' := by
  refine (rtable_any e w).mono ?_
  rintro x w' ⟨v, rfl, hv, hb⟩
  rw [tbl_is h] at hv
  obtain ⟨b, off, cap, rfl, hlt, hc⟩ := ints_cells hv
  exact ⟨b, off, cap, rfl, hlt, hc, hb⟩
theorem mp_take (e : Int) (s : ByteArray) {k : Nat} (h : k < s.size) : (mp e s).take (k + 1) = (mp e s).take k ++ [scE e s[k].toNat] := by
  have h2 : k < (mp e s).length := by rw [mp_len]; exact h
  rw [List.take_succ_eq_append_getElem h2]
  have e2 : (mp e s)[k] = scE e s[k].toNat := by
    simp only [mp, List.getElem_map]
    rfl
  rw [e2]
set_option maxRecDepth 100000 in
theorem rdecode_any (e : Int) (s : ByteArray) (w : World) (hs : s.size ≤ 4000) : Calls Tryd.prog 7 #[.int .i8 e, .string s] w fun x w' => DecS e s w x w' := by
  cases h : isE e
  · have HT := Lib.hid (rtable_no e h w)
    have HI := Lib.hid h
    clear h
    go_enter Tryd.func7, Tryd.ntmps7
    go_wp2_with (go_at_call 15; refine HT.out.mono ?_; rintro x w1 ⟨p, c, rfl, hb1⟩; have HB1 := Lib.hid hb1; clear hb1)
    go_ret2
    exact dec_no HI.out HB1.out
  · obtain ⟨i0, hi, hz0, hz1, hz2⟩ := info_parts info3
    have HT := Lib.hid (rtable_is e h w)
    have HI := Lib.hid h
    have HAB : Hid (allB (mp e s) = true) := Lib.hid (allB_mp h s)
    have HL := Lib.hid (mp_len e s)
    have HMT := Lib.hid fun k hk => mp_take e s (k := k) hk
    obtain ⟨M, hM⟩ : ∃ M, mp e s = M := ⟨_, rfl⟩
    have HM := Lib.hid hM
    rw [hM] at HAB HL HMT
    clear h hM
    go_enter Tryd.func7, Tryd.ntmps7
    go_wp2_with (go_at_call 15; refine HT.out.mono ?_; rintro x w1 ⟨b, off, cap, rfl, hlt, hc, hb1⟩; have HB1 := Lib.hid hb1; have HC := Lib.hid hc; clear hb1 hc)
    have hq1 := HB1.out.size
    go_loopg [7, 8] (s.size + 1) (fun g q7 q8 wr => ∃ (u : Value) (k : Nat), u = q7 ∧ k + g = s.size + 1 ∧ q8 = .int .i64 k ∧ k ≤ s.size ∧ Hid (OwnI wr w1.heap.size u (M.take k)) ∧ Hid (Below w1.heap.size w1 wr))
    case atStart => exact ⟨_, 0, rfl, by omega, rfl, by omega, Lib.hid (by rw [List.take_zero]; exact ownI_nil _ _), Lib.hid (Below.refl _ _)⟩
    case round =>
      obtain ⟨u, k, rfl, hkg, rfl, hk7, HO, HB⟩ := hrel
      have hwz := HB.out.size
      by_cases hk : k < s.size
      · have hcb := s[k].toNat_lt
        have hcell := (HB.out.cell (p := ⟨b, off + s[k].toNat, none⟩) hlt).trans (HC.out s[k].toNat hcb)
        have HX := Lib.hid (HMT.out k hk)
        obtain ⟨c, hc⟩ : ∃ c, scE e s[k].toNat = c := ⟨_, rfl⟩
        rw [hc] at HX hcell
        have hlen : (M.take k).length = k := by rw [List.length_take, HL.out]; omega
        obtain ⟨xs, hxs⟩ : ∃ xs, M.take k = xs := ⟨_, rfl⟩
        rw [hxs] at HX HO hlen
        have HO' : Hid (wr.ownsRow w1.heap.size 3 1 u k (xs.map (Value.int .i64))) := Lib.hid (by have := HO.out; unfold OwnI at this; rwa [hlen] at this)
        have HLX := Lib.hid hlen
        clear hxs hc HO hlen
        go_wp2_with (at_builtin; refine wpList_append_lies _ rfl _ _ _ rfl w1.heap.size 3 i0 _ 1 8 Tryd.underlying30 hi hz0 hz1 hz2 rfl (by omega) u k _ rfl (World.ownsRow.alloc HO'.out _) ⟨wr.heap.size, 0, none⟩ 1 1 [_] rfl rfl (cell_one_new _ _ _) (by simp [Value.oneCell']) (by omega) (by unfold maxLen; omega) (by omega) (by simp; omega) (wr.heap.size + 1) (by simp) ?_; intro g2 cap2 w2 hown2 hgrow2 hat2 hlt2)
        have HO2 : Hid (OwnI w2 w1.heap.size (.slice (some ⟨g2, 0, none⟩) (k + 1) cap2) (M.take (k + 1))) := Lib.hid (by
          rw [HX.out]; unfold OwnI; rw [List.length_append, List.map_append, HLX.out]; exact hown2)
        have HB2 : Hid (Below w1.heap.size w1 w2) := Lib.hid ((HB.out.alloc hwz _).grown hgrow2 (by simp; omega) (fun j ej => (World.ownsRow.lt HO'.out j ej).1))
        clear hown2 hgrow2 hat2 hlt2
        go_wp2_with fail
        go_roundg (gk - 1)
        case measure => omega
        case rel => exact ⟨_, k + 1, rfl, by omega, by go_num, by omega, HO2, HB2⟩
      · have hMk : M.take k = M := List.take_of_length_le (by rw [HL.out]; omega)
        have HTX := Lib.hid (rtext_any u M wr (ints_of_own (by have := HO.out; rwa [hMk] at this)) (by rw [HL.out]; omega))
        clear hMk
        go_wp2_with (go_at_call 16; refine HTX.out.mono ?_; rintro e w3 ht; obtain ⟨rfl, hb3⟩ := text_of HAB.out ht; have HB3 := Lib.hid hb3; clear hb3 ht)
        go_ret2
        have HF := dec_is (s := s) HI.out (below_call (below_call HB1.out HB.out) HB3.out)
        rw [HM.out] at HF
        exact HF
end Go.Proofs.YtgahaehnlbkihaaDoor
