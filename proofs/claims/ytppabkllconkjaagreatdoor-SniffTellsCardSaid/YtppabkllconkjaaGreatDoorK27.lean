/- Joined: NB, NS. -/
import Derived.BigQuiet
import Derived.Deep.AppendLies
import Derived.Deep.DeepCutAuto
import Derived.Deep.LoopGhost
import Derived.Deep.OwnRows
import Derived.Deep.QuietTactic
import Derived.Deep.RegionHeld3
import Derived.Deep.RegionLaw
import Derived.Deep.WholeRow
import Derived.Laws.AppendOwn
import Derived.Laws.BitsLemmas
import Derived.Laws.BytesArg
import Derived.Laws.DeepStrings4
import Derived.Laws.Externs
import Derived.Laws.IdiomStrings
import Derived.Laws.ResultCell
import Derived.Laws.Rows
import Derived.Laws.StructEq
import Derived.Laws.Tables
import Derived.Lib.AppendStr
import Derived.Lib.Bytealg
import Derived.Lib.Hide
import Derived.LoopIn
import Derived.LoopN
import Derived.LoopNIn
import Derived.Maps.AppendAt
import Derived.Maps.Own
import Derived.Maps.OwnSet
import Derived.OpenShut
import Derived.Outline
import Derived.OwnWalk
import Derived.OwnWalkIn
import Derived.ProofKit
import Derived.RangeFuncBound
import Derived.RangeFuncBox
import Derived.RangeFuncCalls
import Derived.RangeFuncLeaves
import Derived.RangeFuncNested
import Derived.RangeFuncWrites
import Derived.Shelf.Abstract
import Derived.Shelf.LaysM
import Derived.Shelf.RegionOpen
import Derived.Shelf.Small.Wraps
import Derived.Shelf.Strings.Cut
import Derived.Shelf.Strings.Shaped
import Derived.Shelf.Strings.SlTrimAscii
import Derived.StillTailTactics
import Derived.TacticsInMore
import Derived.Test.YtppabkllconkjaaGreatDoorProg
import Derived.Test.YtppabkllconkjaaGreatDoorRows
import Derived.WalkKit
import Derived.WalkMore
import Derived.Test.YtppabkllconkjaaGreatDoorK01
import Derived.Test.YtppabkllconkjaaGreatDoorK03
import Derived.Test.YtppabkllconkjaaGreatDoorK05
import Derived.Test.YtppabkllconkjaaGreatDoorK07
import Derived.Test.YtppabkllconkjaaGreatDoorK09
import Derived.Test.YtppabkllconkjaaGreatDoorK10
import Derived.Test.YtppabkllconkjaaGreatDoorK11
import Derived.Test.YtppabkllconkjaaGreatDoorK12
import Derived.Test.YtppabkllconkjaaGreatDoorK13
import Derived.Test.YtppabkllconkjaaGreatDoorK14
import Derived.Test.YtppabkllconkjaaGreatDoorK15
import Derived.Test.YtppabkllconkjaaGreatDoorK16
import Derived.Test.YtppabkllconkjaaGreatDoorK18
import Derived.Test.YtppabkllconkjaaGreatDoorK20
import Derived.Test.YtppabkllconkjaaGreatDoorK21
import Derived.Test.YtppabkllconkjaaGreatDoorK22
import Derived.Test.YtppabkllconkjaaGreatDoorK25
/- The contracts of Xml, of the document and of a stand-in. -/
namespace Go.Proofs.YtppabkllconkjaaGreatDoor.Snf
open Go.RowKit
set_option linter.unusedVariables false
set_option linter.unusedSimpArgs false
set_option maxRecDepth 100000
set_option maxRecDepth 100000
open Lab (str str_size str_list str_eta str_inj u8v info5 info_parts)
set_option maxHeartbeats 1000000 in
theorem rblank_any (l : List UInt8) (w : World) (hs : l.length ≤ maxLen) : Calls Tryz.prog 30 #[.string (str l)] w fun e w' => e = .returned (.bool (blk0 l)) ∧ w' = w := by
  unfold maxLen at hs
  obtain ⟨s, hs'⟩ : ∃ s, str l = s := ⟨_, rfl⟩
  have hsz : s.size = l.length := by rw [← hs', str_size]
  have HLL : Hid (s.data.toList = l) := Lib.hid (by rw [← hs', str_list])
  rw [hs']
  have hs6 : s.size ≤ 2 ^ 63 - 1 := by omega
  have HSZ := Lib.hid hsz
  clear hs' hs hsz
  go_enter Tryz.func30, Tryz.ntmps30
  go_wp2_with fail
  go_loopg [3] (s.size + 1) (fun g q wr => ∃ (k : Nat), k + g = s.size + 1 ∧ w = wr ∧ q = .int .i64 k ∧ k ≤ s.size ∧ Hid (blk0 (l.take k) = true))
  case atStart => exact ⟨0, by omega, rfl, rfl, by omega, Lib.hid rfl⟩
  case round =>
    obtain ⟨k, hkg, hw, rfl, hk7, HE⟩ := hrel
    subst hw
    by_cases hlt : k < s.size
    · have hkl : k < l.length := by rw [← HSZ.out]; exact hlt
      have hk0 : (0 : Int) ≤ (k : Int) := by omega
      have hk3 : (k : Int) < (s.size : Int) := by omega
      have hel : l[k] = s[k] := by
        have := HLL.out
        subst this
        rfl
      have HN : Hid (¬ (s[k] = 32 ∨ s[k] = 9) → blk0 l = false) := Lib.hid fun h => by
        unfold blk0
        rw [List.all_eq_false]
        refine ⟨l[k], List.getElem_mem _, ?_⟩
        rw [hel]
        simpa using h
      have HY : Hid (s[k] = 32 ∨ s[k] = 9 → blk0 (l.take (k + 1)) = true) := Lib.hid fun h => by
        have := HE.out
        unfold blk0 at this ⊢
        rw [List.take_succ_eq_append_getElem hkl, List.all_append, this, hel]
        rcases h with h | h <;> simp [h]
      clear hel
      by_cases h32 : s[k] = 32
      · have d1 : ((s[k].toNat : Int) != 32) = false := by rw [h32]; rfl
        have H2 := Lib.hid (HY.out (.inl h32))
        clear h32 hkl
        go_wp2_with fail
        go_roundg (gk - 1)
        case measure => omega
        case rel => exact ⟨k + 1, by omega, rfl, by go_num, by omega, H2⟩
      have d1 : ((s[k].toNat : Int) != 32) = true := by
        have : ¬ (s[k].toNat : Int) = 32 := fun h => h32 (Dec.u8_lit.1 h)
        simpa using this
      by_cases h9 : s[k] = 9
      · have d2 : ((s[k].toNat : Int) != 9) = false := by rw [h9]; rfl
        have H2 := Lib.hid (HY.out (.inr h9))
        clear h32 h9 hkl
        go_wp2_with fail
        go_roundg (gk - 1)
        case measure => omega
        case rel => exact ⟨k + 1, by omega, rfl, by go_num, by omega, H2⟩
      have d2 : ((s[k].toNat : Int) != 9) = true := by
        have : ¬ (s[k].toNat : Int) = 9 := fun h => h9 (Dec.u8_lit.1 h)
        simpa using this
      have H2 := Lib.hid (HN.out (fun h => h.elim h32 h9))
      clear h32 h9 hkl
      go_wp2_with fail
      try rw [Exit.noGoto_ret]
      go_ret
      exact ⟨by rw [H2.out]; rfl, rfl⟩
    · have H2 : Hid (blk0 l = true) := Lib.hid (by
        have := HE.out
        rwa [List.take_of_length_le (by have := HSZ.out; omega)] at this)
      go_wp2_with fail
      go_ret
      exact ⟨by rw [H2.out]; rfl, rfl⟩
theorem rxml_form (kind : List UInt8) : xmlK kind = (blk0 kind || (decide (Med.errOf (Med.parse kind) = 0) && Med.xml (Med.medOf (Med.parse kind)).1)) := by
  unfold xmlK Med.errOf Med.medOf
  cases Med.parse kind <;> rfl
set_option maxHeartbeats 4000000 in
theorem rxml_any (kind : List UInt8) (w : World) (hs : kind.length ≤ 100000) : Calls Tryz.prog 14 #[.string (str kind)] w fun e w' => XmR kind w e w' := by
  have hk6 : kind.length ≤ maxLen := by unfold maxLen; omega
  have htot := Med.medOf_tot kind
  have HXF := Lib.hid (rxml_form kind)
  have HB : Hid (∀ w, Calls Tryz.prog 30 #[.string (str kind)] w fun e w' => e = .returned (.bool (blk0 kind)) ∧ w' = w) := Lib.hid fun w => rblank_any kind w hk6
  have HP : Hid (∀ w, Calls Tryz.prog 25 #[.string (str kind)] w fun e w' => Med.ParseU (Med.parse kind) w e w') := Lib.hid fun w => (Med.rparse_any kind w hs).mono fun e w' h => h.un
  unfold Med.ParseU at HP
  unfold XmR
  obtain ⟨X, hX⟩ : ∃ X, xmlK kind = X := ⟨_, rfl⟩
  rw [hX] at HXF ⊢
  clear hX
  obtain ⟨m, hm⟩ : ∃ m, Med.medOf (Med.parse kind) = m := ⟨_, rfl⟩
  have htm : m.1.length ≤ maxLen ∧ m.2.length ≤ maxLen := by
    have h1 : (Med.parse kind).getD ([], []) = m := hm
    rw [h1] at htot
    unfold Med.tot at htot
    unfold maxLen; omega
  rw [hm] at HP HXF
  obtain ⟨E, hE⟩ : ∃ E, Med.errOf (Med.parse kind) = E := ⟨_, rfl⟩
  rw [hE] at HP HXF
  have HQ : Hid (∀ (u : Value) (w : World), (∃ p n cap, u = .slice p n cap) → Calls Tryz.prog 31 #[.agg #[.string (str m.1), u]] w fun e w' => e = .returned (.bool (Med.xml m.1)) ∧ Below w.heap.size w w') := Lib.hid fun u w h => Med.rxml_any m u w h htm.1
  obtain ⟨q, hq⟩ : ∃ q, Med.xml m.1 = q := ⟨_, rfl⟩
  rw [hq] at HQ HXF
  obtain ⟨b, hb⟩ : ∃ b, blk0 kind = b := ⟨_, rfl⟩
  rw [hb] at HB HXF
  obtain ⟨T, hT⟩ : ∃ T, str m.1 = T := ⟨_, rfl⟩
  rw [hT] at HP HQ
  obtain ⟨N, hN⟩ : ∃ N, m.2.length = N := ⟨_, rfl⟩
  rw [hN] at HP
  obtain ⟨s, hs'⟩ : ∃ s, str kind = s := ⟨_, rfl⟩
  rw [hs'] at HP HB ⊢
  clear hs' hT hN hq hb hE hm htot htm hk6 hs
  have HAL : Hid (∀ {w1 w2 : World} (o : Obj), Below w.heap.size w w1 → Below (w1.alloc o).heap.size (w1.alloc o) w2 → Below w.heap.size w w2) := Lib.hid fun o h1 h2 => (h1.alloc h1.size o).trans (h2.mono (by have := h1.size; simp; omega))
  cases b with
  | true =>
    have HR : Hid (X = true) := Lib.hid (by rw [HXF.out]; rfl)
    go_enter Tryz.func14, Tryz.ntmps14
    go_wp2_with (first
      | (go_at_call 25; refine (HP.out _).mono ?_; rintro _ w1 ⟨p1, cap1, rfl, -, hb1⟩; clear HP)
      | (go_at_call 30; refine (HB.out _).mono ?_; rintro _ w9 ⟨rfl, hw9⟩; subst w9; clear HB))
    go_ret
    exact ⟨by rw [HR.out]; rfl, hb1.alloc hb1.size _⟩
  | false =>
    by_cases h0 : E = 0
    · have dz : (E == 0) = true := by rw [h0]; rfl
      have HR : Hid (X = q) := Lib.hid (by rw [HXF.out, h0]; rfl)
      clear h0
      go_enter Tryz.func14, Tryz.ntmps14
      go_wp2_with (first
        | (go_at_call 25; refine (HP.out _).mono ?_; rintro _ w1 ⟨p1, cap1, rfl, -, hb1⟩; clear HP)
        | (go_at_call 30; refine (HB.out _).mono ?_; rintro _ w9 ⟨rfl, hw9⟩; subst w9; clear HB)
        | (go_at_call 31; refine (HQ.out _ _ ⟨_, _, _, rfl⟩).mono ?_; rintro _ w2 ⟨rfl, hb2⟩; clear HQ))
      go_ret
      exact ⟨by rw [HR.out]; rfl, HAL.out _ hb1 hb2⟩
    · have dz : (E == 0) = false := by simpa using h0
      have HR : Hid (X = false) := Lib.hid (by rw [HXF.out]; simp [h0])
      clear h0
      go_enter Tryz.func14, Tryz.ntmps14
      go_wp2_with (first
        | (go_at_call 25; refine (HP.out _).mono ?_; rintro _ w1 ⟨p1, cap1, rfl, -, hb1⟩; clear HP)
        | (go_at_call 30; refine (HB.out _).mono ?_; rintro _ w9 ⟨rfl, hw9⟩; subst w9; clear HB))
      go_ret
      exact ⟨by rw [HR.out]; rfl, hb1.alloc hb1.size _⟩
end Go.Proofs.YtppabkllconkjaaGreatDoor.Snf
/- The contract of SameReasons. -/
namespace Go.Proofs.YtppabkllconkjaaGreatDoor.Snf
open Go.RowKit
set_option linter.unusedVariables false
set_option linter.unusedSimpArgs false
set_option maxRecDepth 100000
set_option maxRecDepth 100000
open Lab (str str_size str_list str_eta str_inj u8v info5 info_parts)
theorem guardR : Tryz.prog.eqGuardType Tryz.prog.depth 40 = false := by kernel_rfl
theorem heldR : Tryz.prog.stoodInHeld 40 = false := by kernel_rfl
theorem neqR (a b : Rsn) (w : World) : (binOp .neq 40 (.agg #[.int .i8 a.1, .int .i64 a.2]) (.agg #[.int .i8 b.1, .int .i64 b.2])).run Tryz.prog w = .ok (.bool (decide (a ≠ b))) w := by
  have hf : (Tryz.prog.fieldsOf 40).toList = [⟨ "Kind", 23, 0, false, "", "", 0⟩, ⟨ "At", 3, 1, false, "", "", 8⟩] := by
    unfold Program.fieldsOf; rw [Tryz.underlying40]
  rw [run_neq_struct, run_equalIn_agg w 9999 40 _ _ (by unfold Program.fieldsOf; rw [Tryz.underlying40]) heldR, hf]
  have h3 : Tryz.prog.underlying 3 = some (.int .i64) := Tryz.underlying3
  have h23 : Tryz.prog.underlying 23 = some (.int .i8) := Tryz.underlying23
  simp [Op.eqFields, part, run_equalIn_int _ _ _ _ _ _ _ h3, run_equalIn_int _ _ _ _ _ _ _ h23]
  obtain ⟨a1, a2⟩ := a
  obtain ⟨b1, b2⟩ := b
  by_cases h1 : a1 = b1
  · by_cases h2 : a2 = b2 <;> simp [h1, h2]
  · simp [h1]
set_option maxHeartbeats 2000000 in
theorem rsame_any (ps qs : List Rsn) (u u' : Value) (w : World) (hu : Rsns w u ps) (hu' : Rsns w u' qs) (hl : ps.length ≤ maxLen) (hl' : qs.length ≤ maxLen) :
    Calls Tryz.prog 12 #[u, u'] w fun e w' => e = .returned (.bool (decide (ps = qs))) ∧ Below w.heap.size w w' := by
  obtain ⟨p, cap, rfl⟩ := hu.form
  obtain ⟨p', cap', rfl⟩ := hu'.form
  unfold maxLen at hl hl'
  by_cases hn : ps.length = qs.length
  · have hnn : ((ps.length : Int) != (qs.length : Int)) = false := by simp; omega
    have HN := Lib.hid hn
    have hq := Lib.hid hu
    have hq' := Lib.hid hu'
    clear hu hu' hn
    have h48 := neqR
    have hg48 := guardR
    go_enter Tryz.func12, Tryz.ntmps12
    go_wp2_with fail
    go_loopg [5] (ps.length + 1) (fun g q wr => ∃ (k : Nat), k + g = ps.length + 1 ∧ q = .int .i64 k ∧ k ≤ ps.length ∧ Hid (ps.take k = qs.take k) ∧ Hid (Below w.heap.size w wr))
    case atStart => exact ⟨0, by omega, rfl, by omega, Lib.hid rfl, Lib.hid (Below.refl _ _)⟩
    case round =>
      obtain ⟨k, hkg, rfl, hk7, HE, HW⟩ := hrel
      have hq := Lib.hid (hq.out.below HW.out)
      have hq' := Lib.hid (hq'.out.below HW.out)
      by_cases hlt : k < ps.length
      · have hlt2 : k < qs.length := by have := HN.out; omega
        obtain ⟨b, off, rfl, hbl, x1, x2⟩ := (hq.out.at).2 k hlt
        obtain ⟨b', off', rfl, hbl', y1, y2⟩ := (hq'.out.at).2 k hlt2
        have hk0 : (0 : Int) ≤ (k : Int) := by omega
        have hk3 : (k : Int) < (ps.length : Int) := by omega
        have hk4 : (k : Int) < (qs.length : Int) := by omega
        by_cases he : ps[k] = qs[k]
        · have hd : decide (ps[k] ≠ qs[k]) = false := by simpa using he
          have HE2 : Hid (ps.take (k + 1) = qs.take (k + 1)) := Lib.hid (by
            rw [List.take_add_one, List.take_add_one, HE.out, List.getElem?_eq_getElem hlt, List.getElem?_eq_getElem hlt2, he])
          have hnq := neqR ps[k] qs[k]
          rw [hd] at hnq
          clear he hbl hbl'
          go_wp2_with fail
          go_quiet (fail)
          go_wp2_with fail
          go_roundg (gk - 1)
          case measure => omega
          case rel => exact ⟨k + 1, by omega, by go_num, by omega, HE2, Lib.hid (below_draws HW.out _)⟩
        · have hd : decide (ps[k] ≠ qs[k]) = true := by simpa using he
          have HF : Hid (decide (ps = qs) = false) := Lib.hid (by
            simp only [decide_eq_false_iff_not]
            intro e
            subst e
            exact he rfl)
          have hnq := neqR ps[k] qs[k]
          rw [hd] at hnq
          clear he hbl hbl'
          go_wp2_with fail
          go_quiet (fail)
          go_wp2_with fail
          try rw [Exit.noGoto_ret]
          go_ret
          exact ⟨by rw [HF.out]; rfl, below_draws HW.out _⟩
      · have HF : Hid (decide (ps = qs) = true) := Lib.hid (by
          have h1 := HE.out
          have h2 := HN.out
          rw [List.take_of_length_le (by omega), List.take_of_length_le (by omega)] at h1
          simp [h1])
        go_wp2_with fail
        go_ret
        exact ⟨by rw [HF.out]; rfl, HW.out⟩
  · have hnn : ((ps.length : Int) != (qs.length : Int)) = true := by simp; omega
    have HF : Hid (decide (ps = qs) = false) := Lib.hid (by
      simp only [decide_eq_false_iff_not]
      intro e
      subst e
      exact hn rfl)
    clear hn hu hu'
    go_enter Tryz.func12, Tryz.ntmps12
    go_wp2_with fail
    go_ret
    exact ⟨by rw [HF.out]; rfl, Below.refl _ _⟩
end Go.Proofs.YtppabkllconkjaaGreatDoor.Snf
