/- Joined: ED, EE. -/
import Derived.BigQuiet
import Derived.Deep.AppendLies
import Derived.Deep.DeepCutAuto
import Derived.Deep.LoopGhost
import Derived.Deep.QuietTactic
import Derived.Deep.RegionHeld3
import Derived.Deep.WholeRow
import Derived.Laws.AppendOwn
import Derived.Laws.BytesArg
import Derived.Laws.DeepStrings4
import Derived.Laws.Externs
import Derived.Laws.IdiomStrings
import Derived.Laws.ResultCell
import Derived.Laws.Rows
import Derived.Laws.Tables
import Derived.Lib.Bytealg
import Derived.Lib.Hide
import Derived.LoopN
import Derived.Maps.AppendAt
import Derived.OpenShut
import Derived.Outline
import Derived.OwnWalk
import Derived.ProofKit
import Derived.StillTailTactics
import Derived.Test.YtppabkllconkjaaGreatDoorRows
import Derived.WalkKit
import Derived.WalkMore
import Derived.Test.YtppabkllconkjaaGreatDoorK05
import Derived.Test.YtppabkllconkjaaGreatDoorK09
import Derived.Test.YtppabkllconkjaaGreatDoorK11
import Derived.Test.YtppabkllconkjaaGreatDoorK16
import Derived.Test.YtppabkllconkjaaGreatDoorK17
/- The contract of the document's own Parts; rows of parts. -/
namespace Go.Proofs.YtppabkllconkjaaGreatDoor.Dec
open Go.RowKit
set_option linter.unusedVariables false
set_option linter.unusedSimpArgs false
set_option maxRecDepth 100000
open Lab (RetS ret_str str str_size str_list str_eta str_inj u8v info5 info_parts)
theorem own_below {w w' : World} {m base e size n : Nat} {v : Value} {xs : List Value} (h : w.ownsRow base e size v n xs) (hb : Below w.heap.size w w') : w'.ownsRow base e size v n xs := by
  refine ⟨h.1, ?_⟩
  rcases h.2 with h1 | ⟨g, cap, cur, rfl, h1, hg, h2⟩
  · exact .inl h1
  · have hl : g < w.heap.size := (Array.getElem?_eq_some_iff.1 hg).1
    exact .inr ⟨g, cap, cur, rfl, h1, (hb.block g hl).trans hg, h2⟩
/-- The cells of parameters. -/
def cellsP (ps : List Prt) : List Value := ps.flatMap fun p => [.string (str p.1), .string (str p.2)]
theorem cellsP_app (a b : List Prt) : cellsP (a ++ b) = cellsP a ++ cellsP b := by simp [cellsP]
theorem cellsP_at : ∀ (ps : List Prt) (i : Nat) (h : i < ps.length), (cellsP ps)[2 * i]? = some (.string (str ps[i].1)) ∧ (cellsP ps)[2 * i + 1]? = some (.string (str ps[i].2))
  | [], i, h => by simp at h
  | p :: t, 0, h => ⟨rfl, rfl⟩
  | p :: t, i + 1, h => by
    have := cellsP_at t i (by simpa using h)
    have e : cellsP (p :: t) = .string (str p.1) :: .string (str p.2) :: cellsP t := rfl
    rw [e, show 2 * (i + 1) = 2 * i + 1 + 1 by omega, show 2 * i + 1 + 1 + 1 = (2 * i + 1) + 1 + 1 by omega]
    simpa using this
/-- u is a slice of parameters that reads as ps. -/
def Prs (w : World) (u : Value) (ps : List Prt) : Prop :=
  ∃ p cap, u = .slice p ps.length cap ∧ (ps = [] ∨ ∃ b off, p = some ⟨b, off, none⟩ ∧ b < w.heap.size ∧ ∀ i (h : i < ps.length), w.cell? ⟨b, off + i * 2, none⟩ = some (.string (str ps[i].1)) ∧ w.cell? ⟨b, off + i * 2 + 1, none⟩ = some (.string (str ps[i].2)))
theorem Prs.below {w w' : World} {u : Value} {ps : List Prt} (h : Prs w u ps) (hb : Below w.heap.size w w') : Prs w' u ps := by
  obtain ⟨p, cap, e, h | ⟨b, off, e2, hl, hc⟩⟩ := h
  · exact ⟨p, cap, e, .inl h⟩
  · exact ⟨p, cap, e, .inr ⟨b, off, e2, by have := hb.size; omega, fun i hi => ⟨(hb.cell (p := ⟨b, off + i * 2, none⟩) hl).trans (hc i hi).1, (hb.cell (p := ⟨b, off + i * 2 + 1, none⟩) hl).trans (hc i hi).2⟩⟩⟩
theorem prs_nil (w : World) : Prs w (.slice none 0 0) [] := ⟨none, 0, rfl, .inl rfl⟩
theorem prs_own {w : World} {base : Nat} {u : Value} {ps : List Prt} (h : w.ownsRow base 98 2 u ps.length (cellsP ps)) : Prs w u ps := by
  rcases h.2 with ⟨rfl, h0⟩ | ⟨g, cap, cur, rfl, hb, hg, _⟩
  · have := List.eq_nil_of_length_eq_zero h0
    subst this
    exact prs_nil w
  · refine ⟨_, cap, rfl, .inr ⟨g, 0, rfl, (Array.getElem?_eq_some_iff.1 hg).1, fun i hi => ?_⟩⟩
    have h1 := h.cellAt (i * 2) (by omega)
    have h2 := h.cellAt (i * 2 + 1) (by omega)
    have h3 := cellsP_at ps i hi
    rw [Nat.zero_add]
    rw [Nat.mul_comm 2 i] at h3
    exact ⟨h1.trans h3.1, h2.trans h3.2⟩
theorem Prs.at {w : World} {p : Option Addr} {n cap : Nat} {ps : List Prt} (h : Prs w (.slice p n cap) ps) : n = ps.length ∧ ∀ k (hk : k < ps.length), ∃ b off, p = some ⟨b, off, none⟩ ∧ b < w.heap.size ∧ w.cell? ⟨b, off + k * 2, none⟩ = some (.string (str ps[k].1)) ∧ w.cell? ⟨b, off + k * 2 + 1, none⟩ = some (.string (str ps[k].2)) := by
  obtain ⟨p', cap', e, h⟩ := h
  cases e
  refine ⟨rfl, fun k hk => ?_⟩
  rcases h with rfl | ⟨b, off, rfl, hl, hc⟩
  · simp at hk
  · exact ⟨b, off, rfl, hl, hc k hk⟩
theorem Prs.form {w : World} {u : Value} {ps : List Prt} (h : Prs w u ps) : ∃ p cap, u = .slice p ps.length cap := by
  obtain ⟨p, cap, e, _⟩ := h
  exact ⟨p, cap, e⟩
set_option maxHeartbeats 2000000 in
theorem infoP3 : (Tryz.prog.info? 98).map (fun i => (i.zero, i.size, i.bytes)) = some (some (.agg #[.string ⟨#[]⟩, .string ⟨#[]⟩]), 2, 32) := by kernel_rfl
/-- out = append(out, p): what it leaves. -/
theorem appS {W w1 : World} {n₀ n : Nat} {v : Value} {xs : List Value} {tmp : Obj} (hn : n₀ ≤ W.heap.size) (own : W.ownsRow n₀ 98 2 v n xs) (hg : (W.alloc tmp).grownBy w1 v.ownBlock) : Below n₀ W w1 :=
  ((Below.refl n₀ W).alloc hn tmp).grown hg (by simp; omega) (fun k e => (World.ownsRow.lt own k e).1)
theorem prt_suf {l : List UInt8} {q : Prt × List UInt8} (h : prt l = some q) : ∃ x, l = x ++ q.2 := by
  unfold prt at h
  split at h
  · cases h
  · split at h
    · obtain ⟨v, hv⟩ : ∃ v, (((l.dropWhile wht).dropWhile ltr).dropWhile wht).tail.dropWhile wht = v := ⟨_, rfl⟩
      rw [hv] at h
      have h1 : q.2 <:+ v := by
        cases v with
        | nil => cases h
        | cons c t =>
          rw [qvl_cons] at h
          by_cases hc : (c = 34 ∨ c = 39) ∧ c ∈ t
          · rw [if_pos hc] at h
            cases h
            exact ((List.tail_suffix _).trans (List.dropWhile_suffix _)).trans (List.suffix_cons c t)
          · rw [if_neg hc] at h; cases h
      have h2 : v <:+ l := by
        rw [← hv]
        exact (List.dropWhile_suffix _).trans ((List.tail_suffix _).trans ((List.dropWhile_suffix _).trans ((List.dropWhile_suffix _).trans (List.dropWhile_suffix _))))
      obtain ⟨x, hx⟩ := h1.trans h2
      exact ⟨x, hx.symm⟩
    · cases h
theorem suf_drop {l R x : List UInt8} (h : l = x ++ R) : l.drop (l.length - R.length) = R := by
  subst h
  rw [List.length_append, Nat.add_sub_cancel, List.drop_left]
theorem suf_at {l R x : List UInt8} {k : Nat} (h : l.drop k = x ++ R) : l.drop (l.length - R.length) = R ∧ R.length ≤ l.length := by
  have e : l = (l.take k ++ x) ++ R := by rw [List.append_assoc, ← h, List.take_append_drop]
  refine ⟨suf_drop e, ?_⟩
  have := congrArg List.length e
  rw [List.length_append] at this
  omega
/-- What Parts tells. -/
def PartsR (l : List UInt8) (w : World) (e : Ending) (w' : World) : Prop := ∃ u, e = .returned u ∧ Prs w' u (prts l) ∧ Below w.heap.size w w'
set_option maxRecDepth 100000 in
set_option maxHeartbeats 8000000 in
theorem parts_any (l : List UInt8) (w : World) (hs : l.length ≤ maxLen) : Calls Tryz.prog 56 #[.string (str l)] w fun e w' => PartsR l w e w' := by
  obtain ⟨x, b0, hx6, HI, HR0⟩ : ∃ (x : List UInt8) (b0 : Bool), x.length ≤ 200 ∧ Hid (∀ w, Calls Tryz.prog 92 #[.string (str l)] w fun e w' => e = .returned (.tuple #[.string (str x), .bool b0]) ∧ w' = w) ∧ Hid (prts l = if b0 then pts x else []) := by
    have h := fun w => inside_any l w hs
    unfold prts
    cases hd : dcl l with
    | none => rw [hd] at h; exact ⟨[], false, by decide, Lib.hid h, Lib.hid rfl⟩
    | some x => rw [hd] at h; exact ⟨x, true, ins_len hd, Lib.hid h, Lib.hid rfl⟩
  unfold PartsR
  obtain ⟨R, hR⟩ : ∃ R, prts l = R := ⟨_, rfl⟩
  rw [hR] at HR0 ⊢
  clear hR
  have HPT : Hid (∀ (a : Nat) (w : World), a ≤ x.length → Calls Tryz.prog 93 #[.string (str x), .int .i64 (a : Int)] w fun e w' => PtR x (prt (x.drop a)) w e w') := Lib.hid fun a w h => part_any x a w (by omega) h
  obtain ⟨L, hL⟩ : ∃ L, x.length = L := ⟨_, rfl⟩
  have HLH := Lib.hid hL
  rw [hL] at HPT hx6
  clear hL
  obtain ⟨s, hs'⟩ : ∃ s, str x = s := ⟨_, rfl⟩
  rw [hs'] at HPT HI
  clear hs' hs
  obtain ⟨i0, hi, hz0, hz1, hz2⟩ := info_parts infoP3
  go_enter Tryz.func56, Tryz.ntmps56
  go_wp2_with (go_at_call 92; refine (HI.out _).mono ?_; rintro _ w9 ⟨rfl, hw9⟩; subst w9; clear HI)
  go_loopg [4, 5, 6] (L + 1) (fun g q4 q5 q6 wr => ∃ (b : Bool) (i : Int) (n : Nat) (v : Value) (acc : List Prt), q4 = .bool b ∧ v = q5 ∧ q6 = .int .i64 i ∧ Hid (acc.length = n) ∧ Hid (wr.ownsRow w.heap.size 98 2 v n (cellsP acc)) ∧ Hid (Below w.heap.size w wr) ∧ Hid ((b = true ∧ ∃ k : Nat, i = (k : Int) ∧ k + g = L + 1 ∧ k ≤ L ∧ n ≤ k ∧ R = acc ++ pts (x.drop k)) ∨ (b = false ∧ R = acc)))
  case atStart =>
    refine ⟨b0, 0, 0, .slice none 0 0, [], rfl, rfl, rfl, Lib.hid rfl, Lib.hid (World.ownsRow_nil _ _ _ _), Lib.hid (Below.refl _ _), Lib.hid ?_⟩
    cases b0 with
    | false => exact .inr ⟨rfl, HR0.out⟩
    | true => exact .inl ⟨rfl, 0, rfl, by omega, by omega, by omega, HR0.out⟩
  case round =>
    obtain ⟨b, i, n, v, acc, rfl, rfl, rfl, HN, HO, HB, HC⟩ := hrel
    rcases HC.out with ⟨rfl, k, rfl, hkg, hk7, hnk, hR⟩ | ⟨rfl, hR⟩
    · have HPq := Lib.hid fun w => HPT.out k w hk7
      have HRk := Lib.hid hR
      clear HC hR
      obtain ⟨r2, hr2⟩ : ∃ r2, prt (x.drop k) = r2 := ⟨_, rfl⟩
      rw [hr2] at HPq
      cases r2 with
      | none =>
        have HR2 : Hid (R = acc) := Lib.hid (by rw [HRk.out, pts_none hr2]; simp)
        have HPq2 : Hid (∀ w, Calls Tryz.prog 93 #[.string s, .int .i64 (k : Int)] w fun e w' => (∃ (i : Int), e = .returned (.tuple #[.agg #[.string ⟨#[]⟩, .string ⟨#[]⟩], .int .i64 i, .bool false])) ∧ Below w.heap.size w w') := HPq
        clear HPq hr2 HRk
        go_wp2_with (go_at_call 93; refine (HPq2.out _).mono ?_; rintro _ w2 ⟨⟨j, rfl⟩, hb2⟩; clear HPq2
                     have O2 := Lib.hid ((own_below (m := 0) HO.out hb2).alloc (.cells #[.string ⟨#[]⟩, .string ⟨#[]⟩] 98))
                     have B2 := Lib.hid ((below_call HB.out hb2).alloc (below_call HB.out hb2).size (.cells #[.string ⟨#[]⟩, .string ⟨#[]⟩] 98)))
        go_roundg (gk - 1)
        case measure => omega
        case rel => exact ⟨false, j, n, v, acc, rfl, rfl, rfl, HN, O2, B2, Lib.hid (.inr ⟨rfl, HR2.out⟩)⟩
      | some q =>
        obtain ⟨⟨pn, pv⟩, Rr⟩ := q
        obtain ⟨y, hy⟩ := prt_suf hr2
        obtain ⟨hsuf, hsl⟩ := suf_at hy
        have hlen := prt_len hr2
        simp only [List.length_drop] at hlen
        simp only at hsuf hsl hlen
        have hLx := HLH.out
        obtain ⟨n2, hn2⟩ : ∃ n2 : Nat, x.length - Rr.length = n2 := ⟨_, rfl⟩
        have hn2l : n2 ≤ L := by omega
        have hn2k : k < n2 := by omega
        have HPq2 : Hid (∀ w, Calls Tryz.prog 93 #[.string s, .int .i64 (k : Int)] w fun e w' => e = .returned (.tuple #[.agg #[.string (str pn), .string (str pv)], .int .i64 (n2 : Int), .bool true]) ∧ Below w.heap.size w w') := Lib.hid fun w => by
          have := HPq.out w
          unfold PtR at this
          simp only [hn2] at this
          exact this
        rw [hn2] at hsuf
        have HR3 : Hid (R = (acc ++ [(pn, pv)]) ++ pts (x.drop n2)) := Lib.hid (by
          rw [HRk.out, pts_some hr2, hsuf]; simp)
        have HN2 : Hid ((acc ++ [(pn, pv)]).length = n + 1) := Lib.hid (by rw [List.length_append, HN.out]; rfl)
        have HCP : Hid (cellsP acc ++ [.string (str pn), .string (str pv)] = cellsP (acc ++ [(pn, pv)])) := Lib.hid (by rw [cellsP_app]; rfl)
        have hn63 : n + 1 ≤ 200000 := by omega
        clear hr2 HPq hy hsuf hsl hlen hn2 HRk hLx
        go_wp2_with (first
          | (go_at_call 93; refine (HPq2.out _).mono ?_; rintro _ w2 ⟨rfl, hb2⟩; clear HPq2
             have O2 := Lib.hid ((own_below (m := 0) HO.out hb2).alloc (.cells #[.string (str pn), .string (str pv)] 98))
             have B2 := Lib.hid ((below_call HB.out hb2).alloc (below_call HB.out hb2).size (.cells #[.string (str pn), .string (str pv)] 98))
             have hz2' := B2.out.size)
          | (at_builtin; refine wpList_append_lies _ rfl _ _ _ rfl w.heap.size 98 i0 _ 2 32 Tryz.underlying96 hi hz0 hz1 hz2 rfl (by omega) v n (cellsP acc) rfl (World.ownsRow.alloc O2.out _) ⟨w2.heap.size + 1, 0, none⟩ 1 1 [.string (str pn), .string (str pv)] rfl rfl (by have := World.news_of_block (t := 98) (fr := (0, 0)) (heap_alloc_new (w2.alloc (.cells #[.string (str pn), .string (str pv)] 98)) (.cells #[.string (str pn), .string (str pv)] 98)); simpa using this) (by simp [Value.oneCell']) (by omega) (by unfold maxLen; omega) (by omega) (by simp at hz2' ⊢; omega) (w2.heap.size + 1 + 1) (by simp) ?_; intro g3 cap3 w3 hown3 hgrow3 hat3 hlt3
             have H := Lib.hid (appS hz2' O2.out hgrow3)
             have HO3 := Lib.hid hown3
             clear hown3 hgrow3 hat3 hlt3))
        go_roundg (L + 1 - n2)
        case measure => omega
        case rel => exact ⟨true, (n2 : Int), n + 1, _, acc ++ [(pn, pv)], rfl, rfl, rfl, HN2, Lib.hid (by rw [← HCP.out]; exact HO3.out), Lib.hid (B2.out.trans H.out), Lib.hid (.inl ⟨rfl, n2, rfl, by omega, hn2l, by omega, HR3.out⟩)⟩
    · have HRk := Lib.hid hR
      clear HC hR
      go_wp2_with fail
      go_ret
      refine ⟨_, rfl, ?_, HB.out⟩
      rw [HRk.out]
      exact prs_own (by have := HO.out; rwa [← HN.out] at this)
end Go.Proofs.YtppabkllconkjaaGreatDoor.Dec
/- The contracts of the document's own Scan and Same. -/
namespace Go.Proofs.YtppabkllconkjaaGreatDoor.Dec
open Go.RowKit
set_option linter.unusedVariables false
set_option linter.unusedSimpArgs false
set_option maxRecDepth 100000
open Lab (RetS ret_str str str_size str_list str_eta str_inj u8v info5 info_parts)
/-- What Scan tells. -/
def scanV (r : Option (List UInt8)) : Value := match r with
  | none => .tuple #[.string ⟨#[]⟩, .bool false]
  | some x => .tuple #[.string (str x), .bool true]
def ScanR (r : Option (List UInt8)) (w : World) (e : Ending) (w' : World) : Prop := e = .returned (scanV r) ∧ Below w.heap.size w w'
set_option maxHeartbeats 2000000 in
theorem rscan_any (l : List UInt8) (w : World) (hs : l.length ≤ maxLen) : Calls Tryz.prog 29 #[.string (str l)] w fun e w' => ScanR (scn l) w e w' := by
  have HPA : Hid (∀ w, Calls Tryz.prog 56 #[.string (str l)] w fun e w' => PartsR l w e w') := Lib.hid fun w => parts_any l w hs
  unfold PartsR at HPA
  unfold scn
  have hps := prts_len l
  obtain ⟨ps, hps'⟩ : ∃ ps, prts l = ps := ⟨_, rfl⟩
  rw [hps'] at HPA hps ⊢
  obtain ⟨s, hs'⟩ : ∃ s, str l = s := ⟨_, rfl⟩
  rw [hs'] at HPA ⊢
  clear hs' hs hps'
  unfold ScanR
  go_enter Tryz.func29, Tryz.ntmps29
  go_wp2_with (go_at_call 56; refine (HPA.out _).mono ?_; rintro _ W ⟨u, rfl, hq, hb⟩; clear HPA; obtain ⟨p, cap, rfl⟩ := hq.form)
  have HQ := Lib.hid hq
  have HB0 := Lib.hid hb
  clear hq hb
  go_loopg [5] (ps.length + 1) (fun g q wr => ∃ (k : Nat), k + g = ps.length + 1 ∧ W = wr ∧ q = .int .i64 k ∧ k ≤ ps.length ∧ Hid (fnd (ps.drop k) = fnd ps))
  case atStart => exact ⟨0, by omega, rfl, rfl, by omega, Lib.hid rfl⟩
  case round =>
    obtain ⟨k, hkg, hw, rfl, hk7, HE⟩ := hrel
    subst hw
    by_cases hlt : k < ps.length
    · obtain ⟨b, off, rfl, hbl, x1, x2⟩ := (HQ.out.at).2 k hlt
      have hk0 : (0 : Int) ≤ (k : Int) := by omega
      have hk3 : (k : Int) < (ps.length : Int) := by omega
      by_cases he : ps[k].1 = enc8
      · have ht : (str ps[k].1).toList = [101, 110, 99, 111, 100, 105, 110, 103] := by rw [toList_str, he]; rfl
        have HF := Lib.hid (HE.out.symm.trans (fnd_hit hlt he))
        clear he hbl
        go_wp2_with fail
        go_ret2
        exact ⟨by rw [HF.out]; rfl, HB0.out⟩
      · have ht : ((str ps[k].1).toList == [101, 110, 99, 111, 100, 105, 110, 103]) = false := by rw [toList_str]; simpa [enc8] using he
        have HF := Lib.hid ((fnd_miss hlt he).symm.trans HE.out)
        clear he hbl
        go_wp2_with fail
        go_roundg (gk - 1)
        case measure => omega
        case rel => exact ⟨k + 1, by omega, rfl, by go_num, by omega, HF⟩
    · have HF := Lib.hid (HE.out.symm.trans (fnd_out (by omega)))
      go_wp2_with fail
      go_ret2
      exact ⟨by rw [HF.out]; rfl, HB0.out⟩
end Go.Proofs.YtppabkllconkjaaGreatDoor.Dec
