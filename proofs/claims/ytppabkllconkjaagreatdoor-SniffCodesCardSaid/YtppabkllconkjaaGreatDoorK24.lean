/- Joined: ST. -/
import Derived.BigQuiet
import Derived.Deep.AppendLies
import Derived.Deep.DeepCutAuto
import Derived.Deep.LoopGhost
import Derived.Deep.OwnRows
import Derived.Deep.QuietTactic
import Derived.Deep.RegionHeld3
import Derived.Deep.WholeRow
import Derived.Laws.AppendOwn
import Derived.Laws.BytesArg
import Derived.Laws.DeepStrings4
import Derived.Laws.IdiomStrings
import Derived.Lib.AppendStr
import Derived.Lib.Hide
import Derived.LoopN
import Derived.Maps.AppendAt
import Derived.Maps.Own
import Derived.Maps.OwnSet
import Derived.OpenShut
import Derived.Outline
import Derived.ProofKit
import Derived.StillTailTactics
import Derived.Test.YtppabkllconkjaaGreatDoorRows
import Derived.WalkKit
import Derived.WalkMore
import Derived.Test.YtppabkllconkjaaGreatDoorK01
import Derived.Test.YtppabkllconkjaaGreatDoorK02
import Derived.Test.YtppabkllconkjaaGreatDoorK03
import Derived.Test.YtppabkllconkjaaGreatDoorK04
import Derived.Test.YtppabkllconkjaaGreatDoorK05
import Derived.Test.YtppabkllconkjaaGreatDoorK06
import Derived.Test.YtppabkllconkjaaGreatDoorK07
/- The contracts of Encode. -/
namespace Go.Proofs.YtppabkllconkjaaGreatDoor.U
open Go.RowKit Go.Maps
set_option linter.unusedVariables false
set_option linter.unusedSimpArgs false
set_option maxRecDepth 100000
theorem dec_at (s : ByteArray) {a : Nat} (h : a < s.size) : ∃ r n, dec (s.data.toList.drop a) = (r, n) ∧ ((r = -1 ∧ nxt s a = (0, 0, false)) ∨ (r ≠ -1 ∧ 0 ≤ r ∧ r ≤ 1114111 ∧ 1 ≤ n ∧ n ≤ 4 ∧ a + n ≤ s.size ∧ nxt s a = (r, (n : Int), true))) := by
  obtain ⟨r, n, hd⟩ : ∃ r n, dec (s.data.toList.drop a) = (r, n) := ⟨_, _, rfl⟩
  refine ⟨r, n, hd, ?_⟩
  by_cases hr : r = -1
  · subst hr
    exact .inl ⟨rfl, nxt_bad h hd⟩
  · have h1 : 1 ≤ n := by have := dec_pos (s.data.toList.drop a); rw [hd] at this; exact this
    have h2 : n ≤ 4 := by have := dec_le4 (s.data.toList.drop a); rw [hd] at this; exact this
    have hl : a < s.data.toList.length := by simpa using h
    have h3 := dec_le (drop_ne hl)
    rw [hd] at h3
    simp only [List.length_drop] at h3
    have hl2 : s.data.toList.length = s.size := by simp
    have h5 := isB_iff.1 (dec_ok hd hr).1
    exact .inr ⟨hr, by omega, by omega, h1, h2, by omega, nxt_good h hd hr⟩
theorem own8_len {w : World} {base : Nat} {v : Value} {xs : List UInt8} {n : Nat} (h : Own8 w base v xs) (hn : xs.length = n) : w.ownsRow base 5 1 v n (xs.map u8v) := by subst hn; exact h
set_option maxRecDepth 100000 in
set_option maxHeartbeats 1000000 in
theorem fencode_3 (s : ByteArray) (w : World) (hG : Gl w) (hs : s.size ≤ 30000) : Calls Tryz.prog 100 #[.int .i8 3, .string s] w fun e w' => EncS 3 s w e w' := by
  have HGL := Lib.hid hG
  have HS := Lib.hid (scalars_any w)
  have HT : Hid (∀ w, Calls Tryz.prog 134 #[.func (.func 163) #[rval 3] #[]] w fun e w' => CodS (scE 3) w e w') := Lib.hid fun w => bytesOf_BLK (rval 3) (scE 3) tl_3 (fun b hb => sc_bd 3 (by decide) b hb) w
  have HI : Hid (isE 3 = true) := Lib.hid rfl
  have HNX : Hid (∀ a w, Gl w → Calls Tryz.prog 135 #[.string s, .int .i64 a] w fun e w' => NextS w s a e w') := Lib.hid fun a w hg => next_any s a w hg (by omega)
  have HLK : Hid (∀ (w : World) (G : Nat) (r : Int), w.ownsMap Tryz.prog 3 (plainElem Tryz.prog 5) G 256 (cod (scE 3) 256) → (Lit.int .i64 r).wf = true → (Instr.lookup 158 (.map (some G)) (.int .i64 r) true).run Tryz.prog w = .ok (.tuple #[.int .u8 (((bf 3 r).getD 0 : Nat) : Int), .bool (bf 3 r).isSome]) w) := Lib.hid fun w G r hM hr => by
    rw [bf_is rfl]
    exact cod_run hM (fun a b ha hb h => (sc_inj rfl ha hb).1 h) hr
  have HR := Lib.hid (encR_is (e := 3) rfl s)
  have hST := EAt.start (bf 3) s.data.toList
  obtain ⟨R, hRR⟩ : ∃ R, eF (bf 3) s.data.toList.length s.data.toList 0 [] = R := ⟨_, rfl⟩
  rw [hRR] at HR hST
  have HST := Lib.hid hST
  have hfv := fvr_3
  obtain ⟨rv, hrv⟩ : ∃ v, rval 3 = v := ⟨_, rfl⟩
  rw [hrv] at hfv HT
  have HV := Lib.hid hfv
  have HLL : Hid (s.data.toList.length = s.size) := Lib.hid (by simp)
  clear hrv hfv hG hRR hST
  obtain ⟨i0, hi, hz0, hz1, hz2⟩ := info_parts info5
  go_enter Tryz.func100, Tryz.ntmps100
  go_wp2_with (first
    | (go_at_call 133; refine HS.out.mono ?_; rintro e w1 ⟨g, rfl, hl, hb1⟩; replace hl := hl 3 (by decide); rw [HV.out, HI.out] at hl; have HB1 := Lib.hid hb1; clear hb1)
    | (go_at_call 134; refine (HT.out _).mono ?_; rintro e w2 ⟨G, rfl, hM, hG2, hb2⟩; have HB2 := Lib.hid hb2; have HM := Lib.hid hM; have HGG := Lib.hid hG2; clear hb2 hM hG2))
  clear hl HS HT
  have HB0 := Lib.hid (below_call HB1.out HB2.out)
  have hq0 := HB0.out.size
  have hGlt : Hid (G < w2.heap.size) := Lib.hid HM.out.lt
  have HGL2 := Lib.hid (HGL.out.below' HB0.out)
  go_loopg [5, 10] (s.size + 1) (fun gh q5 q10 wr => ∃ (u : Value) (a : Nat) (xs : List UInt8), u = q10 ∧ a + gh = s.size + 1 ∧ q5 = .int .i64 a ∧ Hid (EAt (bf 3) s.data.toList R a xs) ∧ Hid (Own8 wr w2.heap.size u xs) ∧ Hid (wr.ownsMap Tryz.prog 3 (plainElem Tryz.prog 5) G 256 (cod (scE 3) 256)) ∧ Hid (Below w2.heap.size w2 wr))
  case atStart => exact ⟨_, 0, [], rfl, by omega, rfl, HST, Lib.hid (own_nil _ _), HM, Lib.hid (Below.refl _ _)⟩
  case round =>
    obtain ⟨u, a, xs, rfl, hag, rfl, HA, HO, HM, HB⟩ := hrel
    have hwz := HB.out.size
    have HGr : Hid (Gl wr) := Lib.hid (HGL2.out.below' HB.out)
    by_cases ha : a < s.size
    · have ha' : Hid (a < s.data.toList.length) := Lib.hid (by rw [HLL.out]; exact ha)
      obtain ⟨r, n, hd, ⟨rfl, hnx⟩ | ⟨hr, hr0, hr1, hn1, hn4, hna, hnx⟩⟩ := dec_at s ha
      · have HN := HNX.out a wr HGr.out
        unfold NextS at HN
        rw [hnx] at HN
        have HN := Lib.hid HN
        have HE : Hid (EncS 3 s w (.returned (.tuple #[.string ⟨#[]⟩, .int .i64 (a : Int), .int .i64 2])) wr) := Lib.hid (enc_of HR.out (HA.out.bad ha'.out hd) (below_call HB0.out HB.out))
        have hlk := HLK.out wr G 0 HM.out (by decide)
        obtain ⟨y, hy⟩ : ∃ y : Int, (((bf 3 0).getD 0 : Nat) : Int) = y := ⟨_, rfl⟩
        obtain ⟨yes, hyes⟩ : ∃ y, (bf 3 0).isSome = y := ⟨_, rfl⟩
        rw [hy, hyes] at hlk
        clear hd hnx hy hyes
        go_wp2_with (go_at_call 135; refine HN.out.mono ?_; rintro e w3 ⟨rfl, rfl⟩)
        go_ret3
        exact HE.out
      · have HN := HNX.out a wr HGr.out
        unfold NextS at HN
        rw [hnx] at HN
        have HN := Lib.hid HN
        have hlk := HLK.out wr G r HM.out (WalkArith.wf_i64 (by omega))
        cases hbf : bf 3 r with
        | none =>
          have HE : Hid (EncS 3 s w (.returned (.tuple #[.string ⟨#[]⟩, .int .i64 (a : Int), .int .i64 2])) wr) := Lib.hid (enc_of HR.out (HA.out.miss ha'.out hd hr hbf) (below_call HB0.out HB.out))
          rw [hbf] at hlk
          replace hlk : (Instr.lookup 158 (.map (some G)) (.int .i64 r) true).run Tryz.prog wr = .ok (.tuple #[.int .u8 0, .bool false]) wr := hlk
          clear hd hnx hbf hr
          go_wp2_with (go_at_call 135; refine HN.out.mono ?_; rintro e w3 ⟨rfl, rfl⟩)
          go_ret3
          exact HE.out
        | some b =>
          have hb256 := look_lt hbf
          have HA1 := Lib.hid (HA.out.next ha'.out hd hr hbf)
          rw [hbf] at hlk
          replace hlk : (Instr.lookup 158 (.map (some G)) (.int .i64 r) true).run Tryz.prog wr = .ok (.tuple #[.int .u8 (b : Int), .bool true]) wr := hlk
          obtain ⟨m, hm⟩ : ∃ m, xs.length = m := ⟨_, rfl⟩
          have hma : m ≤ a := by rw [← hm]; exact HA.out.2.1
          have HO' : Hid (wr.ownsRow w2.heap.size 5 1 u m (xs.map u8v)) := Lib.hid (own8_len HO.out hm)
          have HMM := Lib.hid hm
          clear hd hnx hbf hr hm
          go_wp2_with (first
            | (go_at_call 135; refine HN.out.mono ?_; rintro e w3 ⟨rfl, rfl⟩)
            | (at_builtin; refine wpList_append_lies _ rfl _ _ _ rfl w2.heap.size 5 i0 _ 1 1 Tryz.underlying99 hi hz0 hz1 hz2 rfl (by omega) u m _ rfl (World.ownsRow.alloc HO'.out _) ⟨wr.heap.size, 0, none⟩ 1 1 [_] rfl rfl (cell_one_new _ _ _) (by simp [Value.oneCell']) (by omega) (by unfold maxLen; omega) (by omega) (by simp; omega) (wr.heap.size + 1) (by simp) ?_; intro g4 cap4 w4 hown4 hgrow4 hat4 hlt4))
          have HO4 : Hid (Own8 w4 w2.heap.size (.slice (some ⟨g4, 0, none⟩) (m + 1) cap4) (xs ++ [by8 (b : Int)])) := Lib.hid (own8_snoc hb256 HMM.out hown4)
          have HB4 : Hid (Below w2.heap.size w2 w4) := Lib.hid ((HB.out.alloc hwz _).grown hgrow4 (by simp; omega) (fun j ej => (World.ownsRow.lt HO'.out j ej).1))
          have HM4 : Hid (w4.ownsMap Tryz.prog 3 (plainElem Tryz.prog 5) G 256 (cod (scE 3) 256)) := Lib.hid ((HM.out.alloc _).kept hgrow4 (fun ej => by
            have h1 := (World.ownsRow.lt HO'.out G ej.symm).1
            have h2 := hGlt.out
            omega))
          clear hown4 hgrow4 hat4 hlt4
          go_wp2_with fail
          go_roundg (gk - n)
          case measure => omega
          case rel => exact ⟨_, a + n, _, rfl, by omega, by go_num, HA1, HO4, HM4, HB4⟩
    · have hR := HA.out.done (by rw [HLL.out]; exact ha)
      have hconv := conv_own HO.out
      have HE : Hid (EncS 3 s w (.returned (.tuple #[.string (str xs), .int .i64 (-1), .int .i64 0])) wr) := Lib.hid (enc_of HR.out hR (below_call HB0.out HB.out))
      clear hR
      go_wp2_with fail
      go_ret3
      exact HE.out
set_option maxRecDepth 100000 in
set_option maxHeartbeats 1000000 in
theorem fencode_4 (s : ByteArray) (w : World) (hG : Gl w) (hs : s.size ≤ 30000) : Calls Tryz.prog 100 #[.int .i8 4, .string s] w fun e w' => EncS 4 s w e w' := by
  have HGL := Lib.hid hG
  have HS := Lib.hid (scalars_any w)
  have HT : Hid (∀ w, Calls Tryz.prog 134 #[.func (.func 164) #[rval 4] #[]] w fun e w' => CodS (scE 4) w e w') := Lib.hid fun w => bytesOf_RUNS (rval 4) (scE 4) tl_4 (fun b hb => sc_bd 4 (by decide) b hb) w
  have HI : Hid (isE 4 = true) := Lib.hid rfl
  have HNX : Hid (∀ a w, Gl w → Calls Tryz.prog 135 #[.string s, .int .i64 a] w fun e w' => NextS w s a e w') := Lib.hid fun a w hg => next_any s a w hg (by omega)
  have HLK : Hid (∀ (w : World) (G : Nat) (r : Int), w.ownsMap Tryz.prog 3 (plainElem Tryz.prog 5) G 256 (cod (scE 4) 256) → (Lit.int .i64 r).wf = true → (Instr.lookup 158 (.map (some G)) (.int .i64 r) true).run Tryz.prog w = .ok (.tuple #[.int .u8 (((bf 4 r).getD 0 : Nat) : Int), .bool (bf 4 r).isSome]) w) := Lib.hid fun w G r hM hr => by
    rw [bf_is rfl]
    exact cod_run hM (fun a b ha hb h => (sc_inj rfl ha hb).1 h) hr
  have HR := Lib.hid (encR_is (e := 4) rfl s)
  have hST := EAt.start (bf 4) s.data.toList
  obtain ⟨R, hRR⟩ : ∃ R, eF (bf 4) s.data.toList.length s.data.toList 0 [] = R := ⟨_, rfl⟩
  rw [hRR] at HR hST
  have HST := Lib.hid hST
  have hfv := fvr_4
  obtain ⟨rv, hrv⟩ : ∃ v, rval 4 = v := ⟨_, rfl⟩
  rw [hrv] at hfv HT
  have HV := Lib.hid hfv
  have HLL : Hid (s.data.toList.length = s.size) := Lib.hid (by simp)
  clear hrv hfv hG hRR hST
  obtain ⟨i0, hi, hz0, hz1, hz2⟩ := info_parts info5
  go_enter Tryz.func100, Tryz.ntmps100
  go_wp2_with (first
    | (go_at_call 133; refine HS.out.mono ?_; rintro e w1 ⟨g, rfl, hl, hb1⟩; replace hl := hl 4 (by decide); rw [HV.out, HI.out] at hl; have HB1 := Lib.hid hb1; clear hb1)
    | (go_at_call 134; refine (HT.out _).mono ?_; rintro e w2 ⟨G, rfl, hM, hG2, hb2⟩; have HB2 := Lib.hid hb2; have HM := Lib.hid hM; have HGG := Lib.hid hG2; clear hb2 hM hG2))
  clear hl HS HT
  have HB0 := Lib.hid (below_call HB1.out HB2.out)
  have hq0 := HB0.out.size
  have hGlt : Hid (G < w2.heap.size) := Lib.hid HM.out.lt
  have HGL2 := Lib.hid (HGL.out.below' HB0.out)
  go_loopg [5, 10] (s.size + 1) (fun gh q5 q10 wr => ∃ (u : Value) (a : Nat) (xs : List UInt8), u = q10 ∧ a + gh = s.size + 1 ∧ q5 = .int .i64 a ∧ Hid (EAt (bf 4) s.data.toList R a xs) ∧ Hid (Own8 wr w2.heap.size u xs) ∧ Hid (wr.ownsMap Tryz.prog 3 (plainElem Tryz.prog 5) G 256 (cod (scE 4) 256)) ∧ Hid (Below w2.heap.size w2 wr))
  case atStart => exact ⟨_, 0, [], rfl, by omega, rfl, HST, Lib.hid (own_nil _ _), HM, Lib.hid (Below.refl _ _)⟩
  case round =>
    obtain ⟨u, a, xs, rfl, hag, rfl, HA, HO, HM, HB⟩ := hrel
    have hwz := HB.out.size
    have HGr : Hid (Gl wr) := Lib.hid (HGL2.out.below' HB.out)
    by_cases ha : a < s.size
    · have ha' : Hid (a < s.data.toList.length) := Lib.hid (by rw [HLL.out]; exact ha)
      obtain ⟨r, n, hd, ⟨rfl, hnx⟩ | ⟨hr, hr0, hr1, hn1, hn4, hna, hnx⟩⟩ := dec_at s ha
      · have HN := HNX.out a wr HGr.out
        unfold NextS at HN
        rw [hnx] at HN
        have HN := Lib.hid HN
        have HE : Hid (EncS 4 s w (.returned (.tuple #[.string ⟨#[]⟩, .int .i64 (a : Int), .int .i64 2])) wr) := Lib.hid (enc_of HR.out (HA.out.bad ha'.out hd) (below_call HB0.out HB.out))
        have hlk := HLK.out wr G 0 HM.out (by decide)
        obtain ⟨y, hy⟩ : ∃ y : Int, (((bf 4 0).getD 0 : Nat) : Int) = y := ⟨_, rfl⟩
        obtain ⟨yes, hyes⟩ : ∃ y, (bf 4 0).isSome = y := ⟨_, rfl⟩
        rw [hy, hyes] at hlk
        clear hd hnx hy hyes
        go_wp2_with (go_at_call 135; refine HN.out.mono ?_; rintro e w3 ⟨rfl, rfl⟩)
        go_ret3
        exact HE.out
      · have HN := HNX.out a wr HGr.out
        unfold NextS at HN
        rw [hnx] at HN
        have HN := Lib.hid HN
        have hlk := HLK.out wr G r HM.out (WalkArith.wf_i64 (by omega))
        cases hbf : bf 4 r with
        | none =>
          have HE : Hid (EncS 4 s w (.returned (.tuple #[.string ⟨#[]⟩, .int .i64 (a : Int), .int .i64 2])) wr) := Lib.hid (enc_of HR.out (HA.out.miss ha'.out hd hr hbf) (below_call HB0.out HB.out))
          rw [hbf] at hlk
          replace hlk : (Instr.lookup 158 (.map (some G)) (.int .i64 r) true).run Tryz.prog wr = .ok (.tuple #[.int .u8 0, .bool false]) wr := hlk
          clear hd hnx hbf hr
          go_wp2_with (go_at_call 135; refine HN.out.mono ?_; rintro e w3 ⟨rfl, rfl⟩)
          go_ret3
          exact HE.out
        | some b =>
          have hb256 := look_lt hbf
          have HA1 := Lib.hid (HA.out.next ha'.out hd hr hbf)
          rw [hbf] at hlk
          replace hlk : (Instr.lookup 158 (.map (some G)) (.int .i64 r) true).run Tryz.prog wr = .ok (.tuple #[.int .u8 (b : Int), .bool true]) wr := hlk
          obtain ⟨m, hm⟩ : ∃ m, xs.length = m := ⟨_, rfl⟩
          have hma : m ≤ a := by rw [← hm]; exact HA.out.2.1
          have HO' : Hid (wr.ownsRow w2.heap.size 5 1 u m (xs.map u8v)) := Lib.hid (own8_len HO.out hm)
          have HMM := Lib.hid hm
          clear hd hnx hbf hr hm
          go_wp2_with (first
            | (go_at_call 135; refine HN.out.mono ?_; rintro e w3 ⟨rfl, rfl⟩)
            | (at_builtin; refine wpList_append_lies _ rfl _ _ _ rfl w2.heap.size 5 i0 _ 1 1 Tryz.underlying99 hi hz0 hz1 hz2 rfl (by omega) u m _ rfl (World.ownsRow.alloc HO'.out _) ⟨wr.heap.size, 0, none⟩ 1 1 [_] rfl rfl (cell_one_new _ _ _) (by simp [Value.oneCell']) (by omega) (by unfold maxLen; omega) (by omega) (by simp; omega) (wr.heap.size + 1) (by simp) ?_; intro g4 cap4 w4 hown4 hgrow4 hat4 hlt4))
          have HO4 : Hid (Own8 w4 w2.heap.size (.slice (some ⟨g4, 0, none⟩) (m + 1) cap4) (xs ++ [by8 (b : Int)])) := Lib.hid (own8_snoc hb256 HMM.out hown4)
          have HB4 : Hid (Below w2.heap.size w2 w4) := Lib.hid ((HB.out.alloc hwz _).grown hgrow4 (by simp; omega) (fun j ej => (World.ownsRow.lt HO'.out j ej).1))
          have HM4 : Hid (w4.ownsMap Tryz.prog 3 (plainElem Tryz.prog 5) G 256 (cod (scE 4) 256)) := Lib.hid ((HM.out.alloc _).kept hgrow4 (fun ej => by
            have h1 := (World.ownsRow.lt HO'.out G ej.symm).1
            have h2 := hGlt.out
            omega))
          clear hown4 hgrow4 hat4 hlt4
          go_wp2_with fail
          go_roundg (gk - n)
          case measure => omega
          case rel => exact ⟨_, a + n, _, rfl, by omega, by go_num, HA1, HO4, HM4, HB4⟩
    · have hR := HA.out.done (by rw [HLL.out]; exact ha)
      have hconv := conv_own HO.out
      have HE : Hid (EncS 4 s w (.returned (.tuple #[.string (str xs), .int .i64 (-1), .int .i64 0])) wr) := Lib.hid (enc_of HR.out hR (below_call HB0.out HB.out))
      clear hR
      go_wp2_with fail
      go_ret3
      exact HE.out
set_option maxRecDepth 100000 in
set_option maxHeartbeats 1000000 in
theorem fencode_5 (s : ByteArray) (w : World) (hG : Gl w) (hs : s.size ≤ 30000) : Calls Tryz.prog 100 #[.int .i8 5, .string s] w fun e w' => EncS 5 s w e w' := by
  have HGL := Lib.hid hG
  have HS := Lib.hid (scalars_any w)
  have HT : Hid (∀ w, Calls Tryz.prog 134 #[.func (.func 164) #[rval 5] #[]] w fun e w' => CodS (scE 5) w e w') := Lib.hid fun w => bytesOf_RUNS (rval 5) (scE 5) tl_5 (fun b hb => sc_bd 5 (by decide) b hb) w
  have HI : Hid (isE 5 = true) := Lib.hid rfl
  have HNX : Hid (∀ a w, Gl w → Calls Tryz.prog 135 #[.string s, .int .i64 a] w fun e w' => NextS w s a e w') := Lib.hid fun a w hg => next_any s a w hg (by omega)
  have HLK : Hid (∀ (w : World) (G : Nat) (r : Int), w.ownsMap Tryz.prog 3 (plainElem Tryz.prog 5) G 256 (cod (scE 5) 256) → (Lit.int .i64 r).wf = true → (Instr.lookup 158 (.map (some G)) (.int .i64 r) true).run Tryz.prog w = .ok (.tuple #[.int .u8 (((bf 5 r).getD 0 : Nat) : Int), .bool (bf 5 r).isSome]) w) := Lib.hid fun w G r hM hr => by
    rw [bf_is rfl]
    exact cod_run hM (fun a b ha hb h => (sc_inj rfl ha hb).1 h) hr
  have HR := Lib.hid (encR_is (e := 5) rfl s)
  have hST := EAt.start (bf 5) s.data.toList
  obtain ⟨R, hRR⟩ : ∃ R, eF (bf 5) s.data.toList.length s.data.toList 0 [] = R := ⟨_, rfl⟩
  rw [hRR] at HR hST
  have HST := Lib.hid hST
  have hfv := fvr_5
  obtain ⟨rv, hrv⟩ : ∃ v, rval 5 = v := ⟨_, rfl⟩
  rw [hrv] at hfv HT
  have HV := Lib.hid hfv
  have HLL : Hid (s.data.toList.length = s.size) := Lib.hid (by simp)
  clear hrv hfv hG hRR hST
  obtain ⟨i0, hi, hz0, hz1, hz2⟩ := info_parts info5
  go_enter Tryz.func100, Tryz.ntmps100
  go_wp2_with (first
    | (go_at_call 133; refine HS.out.mono ?_; rintro e w1 ⟨g, rfl, hl, hb1⟩; replace hl := hl 5 (by decide); rw [HV.out, HI.out] at hl; have HB1 := Lib.hid hb1; clear hb1)
    | (go_at_call 134; refine (HT.out _).mono ?_; rintro e w2 ⟨G, rfl, hM, hG2, hb2⟩; have HB2 := Lib.hid hb2; have HM := Lib.hid hM; have HGG := Lib.hid hG2; clear hb2 hM hG2))
  clear hl HS HT
  have HB0 := Lib.hid (below_call HB1.out HB2.out)
  have hq0 := HB0.out.size
  have hGlt : Hid (G < w2.heap.size) := Lib.hid HM.out.lt
  have HGL2 := Lib.hid (HGL.out.below' HB0.out)
  go_loopg [5, 10] (s.size + 1) (fun gh q5 q10 wr => ∃ (u : Value) (a : Nat) (xs : List UInt8), u = q10 ∧ a + gh = s.size + 1 ∧ q5 = .int .i64 a ∧ Hid (EAt (bf 5) s.data.toList R a xs) ∧ Hid (Own8 wr w2.heap.size u xs) ∧ Hid (wr.ownsMap Tryz.prog 3 (plainElem Tryz.prog 5) G 256 (cod (scE 5) 256)) ∧ Hid (Below w2.heap.size w2 wr))
  case atStart => exact ⟨_, 0, [], rfl, by omega, rfl, HST, Lib.hid (own_nil _ _), HM, Lib.hid (Below.refl _ _)⟩
  case round =>
    obtain ⟨u, a, xs, rfl, hag, rfl, HA, HO, HM, HB⟩ := hrel
    have hwz := HB.out.size
    have HGr : Hid (Gl wr) := Lib.hid (HGL2.out.below' HB.out)
    by_cases ha : a < s.size
    · have ha' : Hid (a < s.data.toList.length) := Lib.hid (by rw [HLL.out]; exact ha)
      obtain ⟨r, n, hd, ⟨rfl, hnx⟩ | ⟨hr, hr0, hr1, hn1, hn4, hna, hnx⟩⟩ := dec_at s ha
      · have HN := HNX.out a wr HGr.out
        unfold NextS at HN
        rw [hnx] at HN
        have HN := Lib.hid HN
        have HE : Hid (EncS 5 s w (.returned (.tuple #[.string ⟨#[]⟩, .int .i64 (a : Int), .int .i64 2])) wr) := Lib.hid (enc_of HR.out (HA.out.bad ha'.out hd) (below_call HB0.out HB.out))
        have hlk := HLK.out wr G 0 HM.out (by decide)
        obtain ⟨y, hy⟩ : ∃ y : Int, (((bf 5 0).getD 0 : Nat) : Int) = y := ⟨_, rfl⟩
        obtain ⟨yes, hyes⟩ : ∃ y, (bf 5 0).isSome = y := ⟨_, rfl⟩
        rw [hy, hyes] at hlk
        clear hd hnx hy hyes
        go_wp2_with (go_at_call 135; refine HN.out.mono ?_; rintro e w3 ⟨rfl, rfl⟩)
        go_ret3
        exact HE.out
      · have HN := HNX.out a wr HGr.out
        unfold NextS at HN
        rw [hnx] at HN
        have HN := Lib.hid HN
        have hlk := HLK.out wr G r HM.out (WalkArith.wf_i64 (by omega))
        cases hbf : bf 5 r with
        | none =>
          have HE : Hid (EncS 5 s w (.returned (.tuple #[.string ⟨#[]⟩, .int .i64 (a : Int), .int .i64 2])) wr) := Lib.hid (enc_of HR.out (HA.out.miss ha'.out hd hr hbf) (below_call HB0.out HB.out))
          rw [hbf] at hlk
          replace hlk : (Instr.lookup 158 (.map (some G)) (.int .i64 r) true).run Tryz.prog wr = .ok (.tuple #[.int .u8 0, .bool false]) wr := hlk
          clear hd hnx hbf hr
          go_wp2_with (go_at_call 135; refine HN.out.mono ?_; rintro e w3 ⟨rfl, rfl⟩)
          go_ret3
          exact HE.out
        | some b =>
          have hb256 := look_lt hbf
          have HA1 := Lib.hid (HA.out.next ha'.out hd hr hbf)
          rw [hbf] at hlk
          replace hlk : (Instr.lookup 158 (.map (some G)) (.int .i64 r) true).run Tryz.prog wr = .ok (.tuple #[.int .u8 (b : Int), .bool true]) wr := hlk
          obtain ⟨m, hm⟩ : ∃ m, xs.length = m := ⟨_, rfl⟩
          have hma : m ≤ a := by rw [← hm]; exact HA.out.2.1
          have HO' : Hid (wr.ownsRow w2.heap.size 5 1 u m (xs.map u8v)) := Lib.hid (own8_len HO.out hm)
          have HMM := Lib.hid hm
          clear hd hnx hbf hr hm
          go_wp2_with (first
            | (go_at_call 135; refine HN.out.mono ?_; rintro e w3 ⟨rfl, rfl⟩)
            | (at_builtin; refine wpList_append_lies _ rfl _ _ _ rfl w2.heap.size 5 i0 _ 1 1 Tryz.underlying99 hi hz0 hz1 hz2 rfl (by omega) u m _ rfl (World.ownsRow.alloc HO'.out _) ⟨wr.heap.size, 0, none⟩ 1 1 [_] rfl rfl (cell_one_new _ _ _) (by simp [Value.oneCell']) (by omega) (by unfold maxLen; omega) (by omega) (by simp; omega) (wr.heap.size + 1) (by simp) ?_; intro g4 cap4 w4 hown4 hgrow4 hat4 hlt4))
          have HO4 : Hid (Own8 w4 w2.heap.size (.slice (some ⟨g4, 0, none⟩) (m + 1) cap4) (xs ++ [by8 (b : Int)])) := Lib.hid (own8_snoc hb256 HMM.out hown4)
          have HB4 : Hid (Below w2.heap.size w2 w4) := Lib.hid ((HB.out.alloc hwz _).grown hgrow4 (by simp; omega) (fun j ej => (World.ownsRow.lt HO'.out j ej).1))
          have HM4 : Hid (w4.ownsMap Tryz.prog 3 (plainElem Tryz.prog 5) G 256 (cod (scE 5) 256)) := Lib.hid ((HM.out.alloc _).kept hgrow4 (fun ej => by
            have h1 := (World.ownsRow.lt HO'.out G ej.symm).1
            have h2 := hGlt.out
            omega))
          clear hown4 hgrow4 hat4 hlt4
          go_wp2_with fail
          go_roundg (gk - n)
          case measure => omega
          case rel => exact ⟨_, a + n, _, rfl, by omega, by go_num, HA1, HO4, HM4, HB4⟩
    · have hR := HA.out.done (by rw [HLL.out]; exact ha)
      have hconv := conv_own HO.out
      have HE : Hid (EncS 5 s w (.returned (.tuple #[.string (str xs), .int .i64 (-1), .int .i64 0])) wr) := Lib.hid (enc_of HR.out hR (below_call HB0.out HB.out))
      clear hR
      go_wp2_with fail
      go_ret3
      exact HE.out
theorem fencode_no (e : Int) (hwf : (Lit.int .i8 e).wf = true) (h : isE e = false) (s : ByteArray) (w : World) : Calls Tryz.prog 100 #[.int .i8 e, .string s] w fun x w' => EncS e s w x w' := by
  have HS := Lib.hid (scalars_any w)
  have HV := Lib.hid (fval_no h)
  have HI := Lib.hid h
  have HW := Lib.hid hwf
  clear h hwf
  go_enter Tryz.func100, Tryz.ntmps100
  go_wp2_with (go_at_call 133; refine HS.out.mono ?_; rintro e w1 ⟨g, rfl, hl, hb1⟩; replace hl := hl _ HW.out; rw [HV.out, HI.out] at hl; have HB1 := Lib.hid hb1; clear hb1)
  go_ret3
  exact enc_no HI.out HB1.out
theorem fencode_any (e : Int) (hwf : (Lit.int .i8 e).wf = true) (s : ByteArray) (w : World) (hG : Gl w) (hs : s.size ≤ 30000) : Calls Tryz.prog 100 #[.int .i8 e, .string s] w fun x w' => EncS e s w x w' := by
  cases h : isE e
  · exact fencode_no e hwf h s w
  · rcases isE_iff.1 h with rfl | rfl | rfl
    · exact fencode_3 s w hG hs
    · exact fencode_4 s w hG hs
    · exact fencode_5 s w hG hs
set_option maxRecDepth 100000 in
set_option maxHeartbeats 1000000 in
theorem rencode_any (e : Int) (s : ByteArray) (w : World) (hs : s.size ≤ 30000) : Calls Tryz.prog 38 #[.int .i8 e, .string s] w fun x w' => EncS e s w x w' := by
  cases h : isE e
  · have HT := Lib.hid (rtable_no e h w)
    have HI := Lib.hid h
    clear h
    go_enter Tryz.func38, Tryz.ntmps38
    go_wp2_with (go_at_call 68; refine HT.out.mono ?_; rintro x w1 ⟨p, c, rfl, hb1⟩; have HB1 := Lib.hid hb1; clear hb1)
    go_ret3
    exact enc_no HI.out HB1.out
  · obtain ⟨i0, hi, hz0, hz1, hz2⟩ := info_parts info5
    have HT := Lib.hid (rtable_is e h w)
    have HI := Lib.hid h
    have HNX : Hid (∀ a w, Calls Tryz.prog 70 #[.string s, .int .i64 a] w fun e w' => NextS w s a e w') := Lib.hid fun a w => rnext_any s a w (by omega)
    have HBY := Lib.hid fun r w => rbyte_any e r w
    have HR := Lib.hid (encR_is h s)
    have hST := EAt.start (bf e) s.data.toList
    obtain ⟨R, hRR⟩ : ∃ R, eF (bf e) s.data.toList.length s.data.toList 0 [] = R := ⟨_, rfl⟩
    rw [hRR] at HR hST
    have HST := Lib.hid hST
    have HLL : Hid (s.data.toList.length = s.size) := Lib.hid (by simp)
    clear h hRR hST
    go_enter Tryz.func38, Tryz.ntmps38
    go_wp2_with (go_at_call 68; refine HT.out.mono ?_; rintro x w1 ⟨b0, off0, cap0, rfl, hlt, hc, hb1⟩; have HB1 := Lib.hid hb1; clear hb1 hc hlt)
    have hq0 := HB1.out.size
    go_loopg [7, 8] (s.size + 1) (fun gh q7 q8 wr => ∃ (u : Value) (a : Nat) (xs : List UInt8), u = q7 ∧ a + gh = s.size + 1 ∧ q8 = .int .i64 a ∧ Hid (EAt (bf e) s.data.toList R a xs) ∧ Hid (Own8 wr w1.heap.size u xs) ∧ Hid (Below w1.heap.size w1 wr))
    case atStart => exact ⟨_, 0, [], rfl, by omega, rfl, HST, Lib.hid (own_nil _ _), Lib.hid (Below.refl _ _)⟩
    case round =>
      obtain ⟨u, a, xs, rfl, hag, rfl, HA, HO, HB⟩ := hrel
      have hwz := HB.out.size
      by_cases ha : a < s.size
      · have ha' : Hid (a < s.data.toList.length) := Lib.hid (by rw [HLL.out]; exact ha)
        obtain ⟨r, n, hd, ⟨rfl, hnx⟩ | ⟨hr, hr0, hr1, hn1, hn4, hna, hnx⟩⟩ := dec_at s ha
        · have HN := HNX.out a wr
          unfold NextS at HN
          rw [hnx] at HN
          have HN := Lib.hid HN
          have HBQ := HBY.out 0 wr
          unfold RetY at HBQ
          have hbad := HA.out.bad ha'.out hd
          obtain ⟨y, hy⟩ : ∃ y : Int, (((bf e 0).getD 0 : Nat) : Int) = y := ⟨_, rfl⟩
          obtain ⟨yes, hyes⟩ : ∃ y, (bf e 0).isSome = y := ⟨_, rfl⟩
          rw [hy, hyes] at HBQ
          have HBQ := Lib.hid HBQ
          have HBAD := Lib.hid hbad
          clear hd hnx hy hyes hbad
          go_wp2_with (first
            | (go_at_call 70; refine HN.out.mono ?_; rintro e w3 ⟨rfl, rfl⟩)
            | (go_at_call 71; refine HBQ.out.mono ?_; rintro e w3 ⟨rfl, hb3⟩; have HB3 := Lib.hid hb3; clear hb3))
          go_ret3
          exact enc_of HR.out HBAD.out (below_call (below_call HB1.out HB.out) HB3.out)
        · have HN := HNX.out a wr
          unfold NextS at HN
          rw [hnx] at HN
          have HN := Lib.hid HN
          have HBQ := HBY.out r wr
          unfold RetY at HBQ
          cases hbf : bf e r with
          | none =>
            have HBAD := Lib.hid (HA.out.miss ha'.out hd hr hbf)
            rw [hbf] at HBQ
            replace HBQ : Calls Tryz.prog 71 #[.int .i8 e, .int .i64 r] wr fun x w' => x = .returned (.tuple #[.int .u8 0, .bool false]) ∧ Below wr.heap.size wr w' := HBQ
            have HBQ := Lib.hid HBQ
            clear hd hnx hbf hr
            go_wp2_with (first
              | (go_at_call 70; refine HN.out.mono ?_; rintro e w3 ⟨rfl, rfl⟩)
              | (go_at_call 71; refine HBQ.out.mono ?_; rintro e w3 ⟨rfl, hb3⟩; have HB3 := Lib.hid hb3; clear hb3))
            go_ret3
            exact enc_of HR.out HBAD.out (below_call (below_call HB1.out HB.out) HB3.out)
          | some b =>
            have hb256 := look_lt hbf
            have HA1 := Lib.hid (HA.out.next ha'.out hd hr hbf)
            rw [hbf] at HBQ
            replace HBQ : Calls Tryz.prog 71 #[.int .i8 e, .int .i64 r] wr fun x w' => x = .returned (.tuple #[.int .u8 (b : Int), .bool true]) ∧ Below wr.heap.size wr w' := HBQ
            have HBQ := Lib.hid HBQ
            obtain ⟨m, hm⟩ : ∃ m, xs.length = m := ⟨_, rfl⟩
            have hma : m ≤ a := by rw [← hm]; exact HA.out.2.1
            have HO' : Hid (wr.ownsRow w1.heap.size 5 1 u m (xs.map u8v)) := Lib.hid (own8_len HO.out hm)
            have HMM := Lib.hid hm
            clear hd hnx hbf hr hm
            go_wp2_with (first
              | (go_at_call 70; refine HN.out.mono ?_; rintro e w3 ⟨rfl, rfl⟩)
              | (go_at_call 71; refine HBQ.out.mono ?_; rintro e w3 ⟨rfl, hb3⟩; have HB3 := Lib.hid (below_call HB.out hb3); have HO3 := Lib.hid (own_below HO'.out hb3); have hq3 := HB3.out.size; clear hb3)
              | (at_builtin; refine wpList_append_lies _ rfl _ _ _ rfl w1.heap.size 5 i0 _ 1 1 Tryz.underlying99 hi hz0 hz1 hz2 rfl (by omega) u m _ rfl (World.ownsRow.alloc HO3.out _) ⟨w3.heap.size, 0, none⟩ 1 1 [_] rfl rfl (cell_one_new _ _ _) (by simp [Value.oneCell']) (by omega) (by unfold maxLen; omega) (by omega) (by simp; omega) (w3.heap.size + 1) (by simp) ?_; intro g4 cap4 w4 hown4 hgrow4 hat4 hlt4))
            have HO4 : Hid (Own8 w4 w1.heap.size (.slice (some ⟨g4, 0, none⟩) (m + 1) cap4) (xs ++ [by8 (b : Int)])) := Lib.hid (own8_snoc hb256 HMM.out hown4)
            have HB4 : Hid (Below w1.heap.size w1 w4) := Lib.hid ((HB3.out.alloc hq3 _).grown hgrow4 (by simp; omega) (fun j ej => (World.ownsRow.lt HO3.out j ej).1))
            clear hown4 hgrow4 hat4 hlt4
            go_wp2_with fail
            go_roundg (gk - n)
            case measure => omega
            case rel => exact ⟨_, a + n, _, rfl, by omega, by go_num, HA1, HO4, HB4⟩
      · have hR := HA.out.done (by rw [HLL.out]; exact ha)
        have hconv := conv_own HO.out
        have HE : Hid (EncS e s w (.returned (.tuple #[.string (str xs), .int .i64 (-1), .int .i64 0])) wr) := Lib.hid (enc_of HR.out hR (below_call HB1.out HB.out))
        clear hR
        go_wp2_with fail
        go_ret3
        exact HE.out
end Go.Proofs.YtppabkllconkjaaGreatDoor.U
