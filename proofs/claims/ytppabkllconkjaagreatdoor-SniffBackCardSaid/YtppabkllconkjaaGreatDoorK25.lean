/- Joined: N8, NWQ, NBP, NDL, NVP, NDP, NC, NJ. -/
import Derived.BigQuiet
import Derived.ChangeSame
import Derived.ChangeVars
import Derived.Deep.AppendLies
import Derived.Deep.DeepCutAuto
import Derived.Deep.Fields
import Derived.Deep.Grids
import Derived.Deep.LoopGhost
import Derived.Deep.Onto
import Derived.Deep.OwnRows
import Derived.Deep.QuietTactic
import Derived.Deep.RegionHeld3
import Derived.Deep.RegionLaw
import Derived.Deep.Slices
import Derived.Deep.WholeRow
import Derived.HandedShaped
import Derived.LaidMore
import Derived.LaidOnce
import Derived.Laws.AppendOwn
import Derived.Laws.BitsLemmas
import Derived.Laws.BytesArg
import Derived.Laws.DeepStrings4
import Derived.Laws.Externs
import Derived.Laws.IdiomStrings
import Derived.Laws.ResultCell
import Derived.Laws.Rows
import Derived.Laws.StructEq
import Derived.Laws.Tables
import Derived.Lay
import Derived.Lib.AppendStr
import Derived.Lib.Bytealg
import Derived.Lib.Hide
import Derived.Lib.SlTrimSet
import Derived.Lib.SmallJoins
import Derived.LoopIn
import Derived.LoopN
import Derived.LoopNIn
import Derived.Maps.AppendAt
import Derived.Maps.Own
import Derived.Maps.OwnSet
import Derived.OpenShut
import Derived.Outline
import Derived.OwnWalk
import Derived.OwnWalkIn
import Derived.ProofKit
import Derived.RangeFuncBound
import Derived.RangeFuncBox
import Derived.RangeFuncCalls
import Derived.RangeFuncLeaves
import Derived.RangeFuncNested
import Derived.RangeFuncWrites
import Derived.Shelf.Abstract
import Derived.Shelf.LaysM
import Derived.Shelf.RegionOpen
import Derived.Shelf.Small.Wraps
import Derived.Shelf.Strings.Cut
import Derived.Shelf.Strings.Shaped
import Derived.Shelf.Strings.SlTrimAscii
import Derived.SliceStrings
import Derived.StillTailTactics
import Derived.Stop.Joined
import Derived.TacticsInMore
import Derived.Test.YtppabkllconkjaaGreatDoorProg
import Derived.Test.YtppabkllconkjaaGreatDoorRows
import Derived.WalkKit
import Derived.WalkMore
import Derived.Test.YtppabkllconkjaaGreatDoorK01
import Derived.Test.YtppabkllconkjaaGreatDoorK03
import Derived.Test.YtppabkllconkjaaGreatDoorK04
import Derived.Test.YtppabkllconkjaaGreatDoorK05
import Derived.Test.YtppabkllconkjaaGreatDoorK07
import Derived.Test.YtppabkllconkjaaGreatDoorK09
import Derived.Test.YtppabkllconkjaaGreatDoorK10
import Derived.Test.YtppabkllconkjaaGreatDoorK11
import Derived.Test.YtppabkllconkjaaGreatDoorK12
import Derived.Test.YtppabkllconkjaaGreatDoorK13
import Derived.Test.YtppabkllconkjaaGreatDoorK14
import Derived.Test.YtppabkllconkjaaGreatDoorK15
import Derived.Test.YtppabkllconkjaaGreatDoorK16
import Derived.Test.YtppabkllconkjaaGreatDoorK18
import Derived.Test.YtppabkllconkjaaGreatDoorK19
import Derived.Test.YtppabkllconkjaaGreatDoorK20
import Derived.Test.YtppabkllconkjaaGreatDoorK24
/- Rows of reasons; what the contracts of layer 8 tell. -/
namespace Go.Proofs.YtppabkllconkjaaGreatDoor.Snf
open Go.RowKit
set_option linter.unusedVariables false
set_option linter.unusedSimpArgs false
set_option maxRecDepth 100000
set_option maxRecDepth 100000
open Lab (str str_size str_list str_eta str_inj u8v info5 info_parts)
/-- What the listed variables and MaxLen hold. -/
structure G8 (w : World) : Prop where
  u : U.Gl w
  l : Lab.Gl w
  m : Dec.Mx w
theorem G8.next {w w' : World} (h : G8 w) (hb : Below w.heap.size w w') : G8 w' := ⟨h.u.below' hb, h.l.below' hb, h.m.next hb⟩
theorem G8.drewN {w : World} (h : G8 w) (n : Nat) : G8 (w.drewN n) := h.next ⟨rfl, rfl, rfl, Nat.le_refl _, fun _ _ => rfl⟩
theorem G8.alloc {w : World} (h : G8 w) (o : Obj) : G8 (w.alloc o) := h.next ((Below.refl _ _).alloc (Nat.le_refl _) o)
/-- The cells of reasons. -/
def cellsR (l : List Rsn) : List Value := l.flatMap fun r => [.int .i8 r.1, .int .i64 r.2]
theorem cellsR_app (a b : List Rsn) : cellsR (a ++ b) = cellsR a ++ cellsR b := by simp [cellsR]
theorem cellsR_at : ∀ (l : List Rsn) (i : Nat) (h : i < l.length), (cellsR l)[2 * i]? = some (.int .i8 l[i].1) ∧ (cellsR l)[2 * i + 1]? = some (.int .i64 l[i].2)
  | [], i, h => by simp at h
  | p :: t, 0, h => ⟨rfl, rfl⟩
  | p :: t, i + 1, h => by
    have := cellsR_at t i (by simpa using h)
    have e : cellsR (p :: t) = .int .i8 p.1 :: .int .i64 p.2 :: cellsR t := rfl
    rw [e, show 2 * (i + 1) = 2 * i + 1 + 1 by omega, show 2 * i + 1 + 1 + 1 = (2 * i + 1) + 1 + 1 by omega]
    simpa using this
/-- u is a slice of reasons that reads as l. -/
def Rsns (w : World) (u : Value) (l : List Rsn) : Prop :=
  ∃ p cap, u = .slice p l.length cap ∧ (l = [] ∨ ∃ b off, p = some ⟨b, off, none⟩ ∧ b < w.heap.size ∧ ∀ i (h : i < l.length), w.cell? ⟨b, off + i * 2, none⟩ = some (.int .i8 l[i].1) ∧ w.cell? ⟨b, off + i * 2 + 1, none⟩ = some (.int .i64 l[i].2))
theorem Rsns.below {w w' : World} {u : Value} {l : List Rsn} (h : Rsns w u l) (hb : Below w.heap.size w w') : Rsns w' u l := by
  obtain ⟨p, cap, e, h | ⟨b, off, e2, hl, hc⟩⟩ := h
  · exact ⟨p, cap, e, .inl h⟩
  · exact ⟨p, cap, e, .inr ⟨b, off, e2, by have := hb.size; omega, fun i hi => ⟨(hb.cell (p := ⟨b, off + i * 2, none⟩) hl).trans (hc i hi).1, (hb.cell (p := ⟨b, off + i * 2 + 1, none⟩) hl).trans (hc i hi).2⟩⟩⟩
theorem rsns_nil (w : World) : Rsns w (.slice none 0 0) [] := ⟨none, 0, rfl, .inl rfl⟩
theorem rsns_own {w : World} {base : Nat} {u : Value} {l : List Rsn} (h : w.ownsRow base 40 2 u l.length (cellsR l)) : Rsns w u l := by
  rcases h.2 with ⟨rfl, h0⟩ | ⟨g, cap, cur, rfl, hb, hg, _⟩
  · have := List.eq_nil_of_length_eq_zero h0
    subst this
    exact rsns_nil w
  · refine ⟨_, cap, rfl, .inr ⟨g, 0, rfl, (Array.getElem?_eq_some_iff.1 hg).1, fun i hi => ?_⟩⟩
    have h1 := h.cellAt (i * 2) (by omega)
    have h2 := h.cellAt (i * 2 + 1) (by omega)
    have h3 := cellsR_at l i hi
    rw [Nat.zero_add]
    rw [Nat.mul_comm 2 i] at h3
    exact ⟨h1.trans h3.1, h2.trans h3.2⟩
theorem Rsns.form {w : World} {u : Value} {l : List Rsn} (h : Rsns w u l) : ∃ p cap, u = .slice p l.length cap := by
  obtain ⟨p, cap, e, _⟩ := h
  exact ⟨p, cap, e⟩
theorem Rsns.at {w : World} {p : Option Addr} {n cap : Nat} {l : List Rsn} (h : Rsns w (.slice p n cap) l) : n = l.length ∧ ∀ k (hk : k < l.length), ∃ b off, p = some ⟨b, off, none⟩ ∧ b < w.heap.size ∧ w.cell? ⟨b, off + k * 2, none⟩ = some (.int .i8 l[k].1) ∧ w.cell? ⟨b, off + k * 2 + 1, none⟩ = some (.int .i64 l[k].2) := by
  obtain ⟨p', cap', e, h⟩ := h
  cases e
  refine ⟨rfl, fun k hk => ?_⟩
  rcases h with rfl | ⟨b, off, rfl, hl, hc⟩
  · simp at hk
  · exact ⟨b, off, rfl, hl, hc k hk⟩
set_option maxHeartbeats 2000000 in
theorem infoR : (Tryz.prog.info? 40).map (fun i => (i.zero, i.size, i.bytes)) = some (some (.agg #[.int .i8 0, .int .i64 0]), 2, 16) := by kernel_rfl
/-- What the calls of layer 8 tell. -/
def XmR (kind : List UInt8) (w : World) (e : Ending) (w' : World) : Prop := e = .returned (.bool (xmlK kind)) ∧ Below w.heap.size w w'
def EnR (kind body : List UInt8) (w : World) (e : Ending) (w' : World) : Prop := ∃ u, e = .returned (.tuple #[.int .i8 (encF kind body).1, .int .i64 (encF kind body).2.1, u]) ∧ w'.ownsRow w.heap.size 40 2 u (encF kind body).2.2.length (cellsR (encF kind body).2.2) ∧ Below w.heap.size w w'
def DeR (x : Int) (b : List UInt8) (w : World) (e : Ending) (w' : World) : Prop := e = .returned (.tuple #[.string (str (decF x b).1), .int .i64 (decF x b).2]) ∧ Below w.heap.size w w'
def EcR (x : Int) (t : List UInt8) (w : World) (e : Ending) (w' : World) : Prop := e = .returned (.tuple #[.string (str (encdF x t).1), .bool (encdF x t).2]) ∧ Below w.heap.size w w'
def TxR (kind body : List UInt8) (w : World) (e : Ending) (w' : World) : Prop := ∃ u, e = .returned (.tuple #[.string (str (txtF kind body).1), .int .i8 (txtF kind body).2.1, u, .int .i64 (txtF kind body).2.2.2]) ∧ Rsns w' u (txtF kind body).2.2.1 ∧ Below w.heap.size w w'
end Go.Proofs.YtppabkllconkjaaGreatDoor.Snf
/- The mathematics of the landed sniff: four ways that are asked in turn; blanks by trimming. -/
namespace Go.Proofs.YtppabkllconkjaaGreatDoor.Snf
open Go.RowKit
set_option linter.unusedVariables false
set_option linter.unusedSimpArgs false
set_option maxRecDepth 100000
set_option maxRecDepth 100000
/-- How a way answers: the encoding, and 0: silent, 1: mistaken, 2: told. -/
abbrev Ans := Int × Int
def seenA : Option Nat → Ans
  | none => (0, 0)
  | some e => ((e : Int), 2)
def namedA (x : List UInt8) (ok : Bool) : Ans := if ok = true then (if (Lab.ofL x).2 = true then ((Lab.ofL x).1, 2) else (0, 1)) else (0, 0)
def markA (body : List UInt8) : Ans := seenA ((Dec.mrk body).map (·.1))
def chsA (kind : List UInt8) : Ans := namedA (chK kind).1 (chK kind).2
def shapeA (body : List UInt8) : Ans := seenA (Dec.shp body)
def scnP (body : List UInt8) : List UInt8 × Bool := match Dec.scn body with | none => ([], false) | some x => (x, true)
def turnA (a : Ans) : Ans := if a.2 = 2 ∧ (a.1 = 1 ∨ a.1 = 2) then (0, 1) else a
def declA (body : List UInt8) : Ans := turnA (namedA (scnP body).1 (scnP body).2)
def wayA (kind body : List UInt8) (k : Nat) : Ans := if k = 0 then markA body else if k = 1 then chsA kind else if k = 2 then shapeA body else declA body
/-- What is asked from the k-th way on, n of them. -/
def goA (a : Nat → Ans) : Nat → Nat → List Rsn → Int × List Rsn
  | 0, _, l => (0, l)
  | n + 1, k, l => if (a k).2 = 2 then ((a k).1, l) else goA a n (k + 1) (if (a k).2 = 1 then l ++ [(1, 0)] else l)
def skipA (body : List UInt8) : Int := match Dec.mrk body with | none => 0 | some m => (m.2 : Int)
theorem seenA_two : ∀ o, (seenA o).2 = 0 ∨ (seenA o).2 = 2
  | none => .inl rfl
  | some e => .inr rfl
theorem namedA_bd (x : List UInt8) (ok : Bool) : (namedA x ok).2 = 0 ∨ (namedA x ok).2 = 1 ∨ (namedA x ok).2 = 2 := by
  unfold namedA
  split
  · split <;> simp
  · simp
theorem wayA_bd (kind body : List UInt8) (k : Nat) : (wayA kind body k).2 = 0 ∨ (wayA kind body k).2 = 1 ∨ (wayA kind body k).2 = 2 := by
  unfold wayA
  split
  · rcases seenA_two ((Dec.mrk body).map (·.1)) with h | h
    · exact .inl h
    · exact .inr (.inr h)
  · split
    · exact namedA_bd _ _
    · split
      · rcases seenA_two (Dec.shp body) with h | h
        · exact .inl h
        · exact .inr (.inr h)
      · unfold declA turnA
        split
        · exact .inr (.inl rfl)
        · exact namedA_bd _ _
/-- The ways in turn tell what is asked in turn. -/
theorem encB_go (kind body : List UInt8) (l : List Rsn) : goA (wayA kind body) 2 2 l = ((encB body l).1, (encB body l).2.2) := by
  unfold encB
  have h2 : wayA kind body 2 = shapeA body := rfl
  have h3 : wayA kind body 3 = declA body := rfl
  unfold goA
  rw [h2]
  unfold shapeA
  cases hs : Dec.shp body with
  | some e => simp [seenA]
  | none =>
    rw [if_neg (by simp [seenA]), if_neg (by simp [seenA])]
    unfold goA
    rw [h3]
    cases hn : Dec.scn body with
    | none =>
      have hd : declA body = (0, 0) := by
        unfold declA scnP
        rw [hn]
        rfl
      rw [hd]
      rfl
    | some x =>
      have hda : declA body = turnA (namedA x true) := by
        unfold declA scnP
        rw [hn]
      dsimp only
      by_cases ho : (Lab.ofL x).2 = true
      · have hna : namedA x true = ((Lab.ofL x).1, 2) := by
          unfold namedA
          rw [if_pos rfl, if_pos ho]
        by_cases he : (Lab.ofL x).1 = 1 ∨ (Lab.ofL x).1 = 2
        · have hd : declA body = (0, 1) := by
            rw [hda, hna]
            unfold turnA
            rw [if_pos ⟨rfl, he⟩]
          rw [hd, if_neg (show ¬ ((0, 1) : Ans).2 = 2 by decide), if_pos (show ((0, 1) : Ans).2 = 1 from rfl), if_neg (fun h => he.elim h.2.1 h.2.2)]
          rfl
        · have hd : declA body = ((Lab.ofL x).1, 2) := by
            rw [hda, hna]
            unfold turnA
            rw [if_neg (fun h => he h.2)]
          rw [hd, if_pos rfl, if_pos ⟨ho, fun h => he (.inl h), fun h => he (.inr h)⟩]
      · have hd : declA body = (0, 1) := by
          rw [hda]
          unfold namedA
          rw [if_pos rfl, if_neg ho]
          rfl
        rw [hd, if_neg (show ¬ ((0, 1) : Ans).2 = 2 by decide), if_pos (show ((0, 1) : Ans).2 = 1 from rfl), if_neg (fun h => ho h.1)]
        rfl
theorem goA_told {a : Nat → Ans} {n k : Nat} {l : List Rsn} {x : Int} (h : a k = (x, 2)) : goA a (n + 1) k l = (x, l) := by
  unfold goA
  rw [h, if_pos rfl]
theorem goA_mist {a : Nat → Ans} {n k : Nat} {l : List Rsn} {x : Int} (h : a k = (x, 1)) : goA a (n + 1) k l = goA a n (k + 1) (l ++ [(1, 0)]) := by
  rw [goA, h, if_neg (show ¬ (1 : Int) = 2 by decide), if_pos rfl]
theorem goA_mute {a : Nat → Ans} {n k : Nat} {l : List Rsn} {x : Int} (h : a k = (x, 0)) : goA a (n + 1) k l = goA a n (k + 1) l := by
  rw [goA, h, if_neg (show ¬ (0 : Int) = 2 by decide), if_neg (show ¬ (0 : Int) = 1 by decide)]
theorem encF_go (kind body : List UInt8) : encF kind body = ((goA (wayA kind body) 4 0 (rs0 kind)).1, skipA body, (goA (wayA kind body) 4 0 (rs0 kind)).2) := by
  have hB := encB_go kind body
  unfold encF skipA
  cases hm : Dec.mrk body with
  | some m =>
    have h0 : wayA kind body 0 = ((m.1 : Int), 2) := by
      show markA body = _
      unfold markA
      rw [hm]
      rfl
    rw [goA_told h0]
  | none =>
    have h0 : wayA kind body 0 = (0, 0) := by
      show markA body = _
      unfold markA
      rw [hm]
      rfl
    rw [goA_mute h0]
    dsimp only
    have hz := fun l => (encB_enc body l).1
    by_cases ht : (chK kind).2 = true
    · rw [if_pos ht]
      by_cases ho : (Lab.ofL (chK kind).1).2 = true
      · have h1 : wayA kind body 1 = ((Lab.ofL (chK kind).1).1, 2) := by
          show chsA kind = _
          unfold chsA namedA
          rw [if_pos ht, if_pos ho]
        rw [if_pos ho, goA_told h1]
      · have h1 : wayA kind body 1 = (0, 1) := by
          show chsA kind = _
          unfold chsA namedA
          rw [if_pos ht, if_neg ho]
        rw [if_neg ho, goA_mist h1, hB]
        exact Prod.ext rfl (Prod.ext (hz _) rfl)
    · have h1 : wayA kind body 1 = (0, 0) := by
        show chsA kind = _
        unfold chsA namedA
        rw [if_neg ht]
      rw [if_neg ht, goA_mute h1, hB]
      exact Prod.ext rfl (Prod.ext (hz _) rfl)
/-- Trimmed of blanks nothing is left: nothing but blanks. -/
theorem dw_nil (p : UInt8 → Bool) (l : List UInt8) : l.dropWhile p = [] ↔ l.all p = true := by
  induction l with
  | nil => simp
  | cons a t ih =>
    rw [List.dropWhile_cons, List.all_cons]
    by_cases h : p a = true
    · rw [if_pos h, ih, h, Bool.true_and]
    · rw [if_neg h]
      simp [h]
theorem trim_blk (l : List UInt8) : Lib.trimS l [32, 9] = [] ↔ blk0 l = true := by
  unfold Lib.trimS Lib.trimLeftS Lib.trimRightS blk0
  have hp : (([32, 9] : List UInt8).contains ·) = fun c : UInt8 => c == 32 || c == 9 := by
    funext c
    rw [Bool.eq_iff_iff]
    simp [List.contains_cons]
  rw [hp]
  constructor
  · intro h
    rw [dw_nil, List.all_reverse] at h
    have h2 : (l.reverse.dropWhile fun c => c == 32 || c == 9) = [] := by
      have : ∀ m : List UInt8, m.dropWhile (fun c => c == 32 || c == 9) ≠ [] → (m.dropWhile fun c => c == 32 || c == 9).all (fun c => c == 32 || c == 9) = false := by
        intro m
        induction m with
        | nil => simp
        | cons a t ih =>
          rw [List.dropWhile_cons]
          by_cases ha : (a == 32 || a == 9) = true
          · rw [if_pos ha]; exact ih
          · rw [if_neg ha]
            intro _
            rw [List.all_cons]
            simp only [Bool.not_eq_true] at ha
            rw [ha]; rfl
      by_cases hc : (l.reverse.dropWhile fun c => c == 32 || c == 9) = []
      · exact hc
      · rw [this _ hc] at h; cases h
    rw [dw_nil, List.all_reverse] at h2
    exact h2
  · intro h
    have : (l.reverse.dropWhile fun c => c == 32 || c == 9) = [] := by
      rw [dw_nil, List.all_reverse]; exact h
    rw [this]
    rfl
end Go.Proofs.YtppabkllconkjaaGreatDoor.Snf
/- The landed sniff: what is seen, named; faults of a Content-Type; Xml. -/
namespace Go.Proofs.YtppabkllconkjaaGreatDoor.Snf
open Go.RowKit
set_option linter.unusedVariables false
set_option linter.unusedSimpArgs false
set_option maxRecDepth 100000
set_option maxRecDepth 100000
open Lab (str str_size str_list str_eta str_inj u8v info5 info_parts)
theorem pseen_any (x : Int) (b : Bool) (w : World) : Calls Tryz.prog 83 #[.int .i8 x, .bool b] w fun e w' => e = .returned (.tuple #[.int .i8 (if b = true then x else 0), .int .i8 (if b = true then 2 else 0)]) ∧ w' = w := by
  cases b with
  | false =>
    go_enter Tryz.func83, Tryz.ntmps83
    go_wp2_with fail
    go_ret2
    exact ⟨rfl, rfl⟩
  | true =>
    go_enter Tryz.func83, Tryz.ntmps83
    go_wp2_with fail
    go_ret2
    exact ⟨rfl, rfl⟩
set_option maxHeartbeats 2000000 in
theorem pnamed_any (x : List UInt8) (b : Bool) (w : World) (hG : G8 w) (hx : x.length ≤ 100000) : Calls Tryz.prog 84 #[.string (str x), .bool b] w fun e w' => e = .returned (.tuple #[.int .i8 (namedA x b).1, .int .i8 (namedA x b).2]) ∧ Below w.heap.size w w' := by
  cases b with
  | false =>
    have hn : namedA x false = (0, 0) := rfl
    rw [hn]
    go_enter Tryz.func84, Tryz.ntmps84
    go_wp2_with fail
    go_ret2
    exact ⟨rfl, Below.refl _ _⟩
  | true =>
    have HO : Hid (Calls Tryz.prog 121 #[.string (str x)] w fun e w'' => e = .returned (.tuple #[.int .i8 (Lab.ofL x).1, .bool (Lab.ofL x).2]) ∧ Below w.heap.size w w'') := Lib.hid (by
      have := Lab.of_any (str x) w hG.l (by rw [str_size]; unfold maxLen; omega)
      unfold Lab.OfS at this
      rwa [str_list] at this)
    have HN : Hid (namedA x true = if (Lab.ofL x).2 = true then ((Lab.ofL x).1, 2) else (0, 1)) := Lib.hid rfl
    obtain ⟨N, hN⟩ : ∃ N, namedA x true = N := ⟨_, rfl⟩
    rw [hN] at HN ⊢
    obtain ⟨o, ok, hO⟩ : ∃ o ok, Lab.ofL x = (o, ok) := ⟨_, _, rfl⟩
    rw [hO] at HO HN
    dsimp only at HO HN
    obtain ⟨s, hs⟩ : ∃ s, str x = s := ⟨_, rfl⟩
    rw [hs] at HO ⊢
    clear hN hO hs hx hG
    cases ok with
    | false =>
      have HR : Hid (N = (0, 1)) := Lib.hid HN.out
      clear HN
      go_enter Tryz.func84, Tryz.ntmps84
      go_wp2_with (go_at_call 121; refine HO.out.mono ?_; rintro _ w1 ⟨rfl, hb1⟩; clear HO)
      go_ret2
      exact ⟨by rw [HR.out]; rfl, hb1⟩
    | true =>
      have HR : Hid (N = (o, 2)) := Lib.hid HN.out
      clear HN
      go_enter Tryz.func84, Tryz.ntmps84
      go_wp2_with (go_at_call 121; refine HO.out.mono ?_; rintro _ w1 ⟨rfl, hb1⟩; clear HO)
      go_ret2
      exact ⟨by rw [HR.out]; rfl, hb1⟩
theorem pbig_any (x : Int) (w : World) : Calls Tryz.prog 97 #[.int .i8 x] w fun e w' => e = .returned (.bool (x == 2)) ∧ w' = w := by
  go_enter Tryz.func97, Tryz.ntmps97
  go_wp2_with fail
  go_ret
  exact ⟨rfl, rfl⟩
theorem put16_any (x : Int) (w : World) : Calls Tryz.prog 88 #[.int .i8 x] w fun e w' => e = .returned (.bool (decide (x = 1 ∨ x = 2))) ∧ w' = w := by
  by_cases h1 : x = 1
  · subst h1
    go_enter Tryz.func88, Tryz.ntmps88
    go_wp2_with fail
    go_ret
    exact ⟨rfl, rfl⟩
  · have d1 : (x == 1) = false := by simpa using h1
    have HB : Hid (Calls Tryz.prog 97 #[.int .i8 x] w fun e w' => e = .returned (.bool (x == 2)) ∧ w' = w) := Lib.hid (pbig_any x w)
    have HR : Hid (decide (x = 1 ∨ x = 2) = (x == 2)) := Lib.hid (by
      rw [Bool.eq_iff_iff]
      simp [h1])
    obtain ⟨b, hb⟩ : ∃ b, (x == 2) = b := ⟨_, rfl⟩
    rw [hb] at HB HR
    clear hb h1
    go_enter Tryz.func88, Tryz.ntmps88
    go_wp2_with (go_at_call 97; refine HB.out.mono ?_; rintro _ w1 ⟨rfl, hw1⟩; subst w1; clear HB)
    go_ret
    exact ⟨by rw [HR.out]; rfl, rfl⟩
/-- What faults tells. -/
def FaR (kind : List UInt8) (w : World) (e : Ending) (w' : World) : Prop :=
  ((xmlK kind = true ∧ e = .returned (.slice none 0 0)) ∨ (xmlK kind = false ∧ ∃ b cap, e = .returned (.slice (some ⟨b, 0, none⟩) 1 cap) ∧ w.heap.size ≤ b ∧ b < w'.heap.size ∧ w'.cell? ⟨b, 0, none⟩ = some (.int .i8 0))) ∧ Below w.heap.size w w'
theorem xml_form (kind : List UInt8) : xmlK kind = (blk0 kind || (decide (Med.errOf (Med.parse kind) = 0) && Med.xml (Med.medOf (Med.parse kind)).1)) := by
  unfold xmlK Med.errOf Med.medOf
  cases Med.parse kind <;> rfl
theorem trim_pblk (kind : List UInt8) : ((⟨(Lib.trimS kind [32, 9]).toArray⟩ : ByteArray).toList == []) = blk0 kind := by
  have h := trim_blk kind
  have e : (⟨(Lib.trimS kind [32, 9]).toArray⟩ : ByteArray).toList = Lib.trimS kind [32, 9] := Dec.toList_str _
  rw [e, Bool.eq_iff_iff, ← h]
  simp
theorem fa_ret {X : Bool} {w w3 : World} {n : Nat} (hn : n = w3.heap.size) (h : X = false) (hb : Below w.heap.size w w3) :
    ((X = true ∧ Ending.returned (.slice (some ⟨n, 0, none⟩) 1 1) = .returned (.slice none 0 0)) ∨ (X = false ∧ ∃ b cap, Ending.returned (.slice (some ⟨n, 0, none⟩) 1 1) = .returned (.slice (some ⟨b, 0, none⟩) 1 cap) ∧ w.heap.size ≤ b ∧ b < (w3.alloc (.cells #[.int .i8 0] 23)).heap.size ∧ (w3.alloc (.cells #[.int .i8 0] 23)).cell? ⟨b, 0, none⟩ = some (.int .i8 0))) ∧ Below w.heap.size w (w3.alloc (.cells #[.int .i8 0] 23)) :=
  by
  subst hn
  exact ⟨.inr ⟨h, w3.heap.size, 1, rfl, hb.size, by simp, by rw [World.cell?_alloc_at _ _ _ _ (by simp)]; rfl⟩, hb.alloc hb.size _⟩
set_option maxHeartbeats 4000000 in
theorem pfaults_any (kind : List UInt8) (w : World) (hs : kind.length ≤ 100000) : Calls Tryz.prog 21 #[.string (str kind)] w fun e w' => FaR kind w e w' := by
  have htot := Med.medOf_tot kind
  have HXF := Lib.hid (xml_form kind)
  have hT0 := trim_pblk kind
  have HT : Hid (∀ w, Calls Tryz.prog 40 #[.string (str kind), .string ⟨#[32, 9]⟩] w fun e w' => e = .returned (.string ⟨(Lib.trimS kind [32, 9]).toArray⟩) ∧ Below w.heap.size w w') := Lib.hid fun w => by
    have := Tryz.strings_Trim_laid (str kind) ⟨#[32, 9]⟩ w (by rw [str_size]; omega) (by decide) (ascii_of_all (by decide))
    rwa [str_list] at this
  obtain ⟨T, hT⟩ : ∃ T : ByteArray, ⟨(Lib.trimS kind [32, 9]).toArray⟩ = T := ⟨_, rfl⟩
  rw [hT] at HT hT0
  clear hT
  have HP : Hid (∀ w, Calls Tryz.prog 41 #[.string (str kind)] w fun e w' => Med.ParseU (Med.parse kind) w e w') := Lib.hid fun w => Med.parse_str kind w hs
  unfold Med.ParseU at HP
  unfold FaR
  obtain ⟨X, hX⟩ : ∃ X, xmlK kind = X := ⟨_, rfl⟩
  rw [hX] at HXF ⊢
  clear hX
  obtain ⟨m, hm⟩ : ∃ m, Med.medOf (Med.parse kind) = m := ⟨_, rfl⟩
  have htm : m.1.length ≤ maxLen ∧ m.2.length ≤ maxLen := by
    have h1 : (Med.parse kind).getD ([], []) = m := hm
    rw [h1] at htot
    unfold Med.tot at htot
    unfold maxLen; omega
  rw [hm] at HP HXF
  obtain ⟨E, hE⟩ : ∃ E, Med.errOf (Med.parse kind) = E := ⟨_, rfl⟩
  rw [hE] at HP HXF
  have HQ : Hid (∀ (u : Value) (w : World), (∃ p n cap, u = .slice p n cap) → Calls Tryz.prog 42 #[.agg #[.string (str m.1), u]] w fun e w' => e = .returned (.bool (Med.xml m.1)) ∧ Below w.heap.size w w') := Lib.hid fun u w h => Med.xml_any m u w h htm.1
  obtain ⟨q, hq⟩ : ∃ q, Med.xml m.1 = q := ⟨_, rfl⟩
  rw [hq] at HQ HXF
  obtain ⟨b, hb⟩ : ∃ b, blk0 kind = b := ⟨_, rfl⟩
  rw [hb] at hT0 HXF
  obtain ⟨Y, hY⟩ : ∃ Y, str m.1 = Y := ⟨_, rfl⟩
  rw [hY] at HP HQ
  obtain ⟨N, hN⟩ : ∃ N, m.2.length = N := ⟨_, rfl⟩
  rw [hN] at HP
  obtain ⟨s, hs'⟩ : ∃ s, str kind = s := ⟨_, rfl⟩
  rw [hs'] at HP HT ⊢
  clear hs' hY hN hq hb hE hm htot htm hs
  have HAL : Hid (∀ {w1 w2 w3 : World} (o : Obj), Below w.heap.size w w1 → Below w1.heap.size w1 w2 → Below (w2.alloc o).heap.size (w2.alloc o) w3 → Below w.heap.size w w3) := Lib.hid fun o h1 h2 h3 => ((h1.trans (h2.mono h1.size)).alloc (by have := h1.size; have := h2.size; omega) o).trans (h3.mono (by have := h1.size; have := h2.size; simp; omega))
  have HA2 : Hid (∀ {w1 w2 : World}, Below w.heap.size w w1 → Below w1.heap.size w1 w2 → Below w.heap.size w w2) := Lib.hid fun h1 h2 => h1.trans (h2.mono h1.size)
  cases b with
  | true =>
    have HR : Hid (X = true) := Lib.hid (by rw [HXF.out]; rfl)
    go_enter Tryz.func21, Tryz.ntmps21
    go_wp2_with (first
      | (go_at_call 40; refine (HT.out _).mono ?_; rintro _ w1 ⟨rfl, hb1⟩; clear HT))
    go_ret
    exact ⟨.inl ⟨HR.out, rfl⟩, hb1⟩
  | false =>
    by_cases h0 : E = 0
    · have dz : (E != 0) = false := by rw [h0]; rfl
      have HR : Hid (X = q) := Lib.hid (by rw [HXF.out, h0]; rfl)
      clear h0
      cases q with
      | true =>
        go_enter Tryz.func21, Tryz.ntmps21
        go_wp2_with (first
          | (go_at_call 40; refine (HT.out _).mono ?_; rintro _ w1 ⟨rfl, hb1⟩; clear HT)
          | (go_at_call 41; refine (HP.out _).mono ?_; rintro _ w2 ⟨p2, cap2, rfl, -, hb2⟩; clear HP)
          | (go_at_call 42; refine (HQ.out _ _ ⟨_, _, _, rfl⟩).mono ?_; rintro _ w3 ⟨rfl, hb3⟩; clear HQ))
        go_ret
        exact ⟨.inl ⟨HR.out, rfl⟩, HAL.out _ hb1 hb2 hb3⟩
      | false =>
        go_enter Tryz.func21, Tryz.ntmps21
        go_wp2_with (first
          | (go_at_call 40; refine (HT.out _).mono ?_; rintro _ w1 ⟨rfl, hb1⟩; clear HT)
          | (go_at_call 41; refine (HP.out _).mono ?_; rintro _ w2 ⟨p2, cap2, rfl, -, hb2⟩; clear HP)
          | (go_at_call 42; refine (HQ.out _ _ ⟨_, _, _, rfl⟩).mono ?_; rintro _ w3 ⟨rfl, hb3⟩; clear HQ))
        go_ret
        exact fa_ret rfl HR.out (HAL.out _ hb1 hb2 hb3)
    · have dz : (E != 0) = true := by simpa using h0
      have HR : Hid (X = false) := Lib.hid (by rw [HXF.out]; simp [h0])
      clear h0
      go_enter Tryz.func21, Tryz.ntmps21
      go_wp2_with (first
        | (go_at_call 40; refine (HT.out _).mono ?_; rintro _ w1 ⟨rfl, hb1⟩; clear HT)
        | (go_at_call 41; refine (HP.out _).mono ?_; rintro _ w2 ⟨p2, cap2, rfl, -, hb2⟩; clear HP))
      go_ret
      exact fa_ret (by simp) HR.out ((HA2.out hb1 hb2).alloc (by have := (HA2.out hb1 hb2).size; omega) _)
set_option maxHeartbeats 2000000 in
theorem pxml_any (kind : List UInt8) (w : World) (hs : kind.length ≤ 100000) : Calls Tryz.prog 13 #[.string (str kind)] w fun e w' => XmR kind w e w' := by
  have HF : Hid (∀ w, Calls Tryz.prog 21 #[.string (str kind)] w fun e w' => FaR kind w e w') := Lib.hid fun w => pfaults_any kind w hs
  unfold FaR at HF
  unfold XmR
  obtain ⟨X, hX⟩ : ∃ X, xmlK kind = X := ⟨_, rfl⟩
  rw [hX] at HF ⊢
  obtain ⟨s, hs'⟩ : ∃ s, str kind = s := ⟨_, rfl⟩
  rw [hs'] at HF ⊢
  clear hs' hs hX
  cases X with
  | true =>
    have H2 : Hid (∀ w, Calls Tryz.prog 21 #[.string s] w fun e w' => e = .returned (.slice none 0 0) ∧ Below w.heap.size w w') := Lib.hid fun w => (HF.out w).mono fun e w' h => by
      rcases h.1 with ⟨_, h1⟩ | ⟨h1, _⟩
      · exact ⟨h1, h.2⟩
      · cases h1
    clear HF
    go_enter Tryz.func13, Tryz.ntmps13
    go_wp2_with (go_at_call 21; refine (H2.out _).mono ?_; rintro _ w1 ⟨rfl, hb1⟩; clear H2)
    go_ret
    exact ⟨rfl, hb1⟩
  | false =>
    have H2 : Hid (∀ w, Calls Tryz.prog 21 #[.string s] w fun e w' => ∃ b cap, e = .returned (.slice (some ⟨b, 0, none⟩) 1 cap) ∧ Below w.heap.size w w') := Lib.hid fun w => (HF.out w).mono fun e w' h => by
      rcases h.1 with ⟨h1, _⟩ | ⟨_, b, cap, h1, _⟩
      · cases h1
      · exact ⟨b, cap, h1, h.2⟩
    clear HF
    go_enter Tryz.func13, Tryz.ntmps13
    go_wp2_with (go_at_call 21; refine (H2.out _).mono ?_; rintro _ w1 ⟨b1, cap1, rfl, hb1⟩; clear H2)
    go_ret
    exact ⟨rfl, hb1⟩
end Go.Proofs.YtppabkllconkjaaGreatDoor.Snf
/- Lengths; what an Encoding tells in the end. -/
namespace Go.Proofs.YtppabkllconkjaaGreatDoor.Snf
open Go.RowKit
set_option linter.unusedVariables false
set_option linter.unusedSimpArgs false
set_option maxRecDepth 100000
set_option maxRecDepth 100000
open Lab (str str_size str_list str_eta str_inj u8v info5 info_parts)
theorem appR {W w1 : World} {n₀ n size : Nat} {e : TypeId} {v : Value} {xs : List Value} {tmp : Obj} (hn : n₀ ≤ W.heap.size) (own : W.ownsRow n₀ e size v n xs) (hg : (W.alloc tmp).grownBy w1 v.ownBlock) : Below n₀ W w1 :=
  ((Below.refl n₀ W).alloc hn tmp).grown hg (by simp; omega) (fun k e => (World.ownsRow.lt own k e).1)
theorem prs_alloc {w : World} {u : Value} {ps : List Med.Par} (h : Med.Prs w u ps) (o : Obj) : Med.Prs (w.alloc o) u ps := h.below ((Below.refl _ _).alloc (Nat.le_refl _) o)
theorem en_ret {R : Int × Int × List Rsn} {a b : Int} {acc : List Rsn} {n : Nat} {v : Value} {w w' : World} (h : R = (a, b, acc)) (ho : w'.ownsRow w.heap.size 40 2 v n (cellsR acc)) (hb : Below w.heap.size w w') (hn : n = acc.length := by rfl) :
    ∃ u, Ending.returned (.tuple #[.int .i8 a, .int .i64 b, v]) = .returned (.tuple #[.int .i8 R.1, .int .i64 R.2.1, u]) ∧ w'.ownsRow w.heap.size 40 2 u R.2.2.length (cellsR R.2.2) ∧ Below w.heap.size w w' := by
  subst h; subst hn
  exact ⟨v, rfl, ho, hb⟩
theorem chs_len : ∀ ps : List Med.Par, (Med.chs ps).1.length ≤ Med.sumP ps
  | [] => Nat.zero_le _
  | p :: t => by
    rw [Med.sumP_cons]
    unfold Med.chs
    split
    · dsimp only; omega
    · have := chs_len t
      omega
theorem qvl_le {n l : List UInt8} {p : Dec.Prt × List UInt8} (h : Dec.qvl n l = some p) : p.1.2.length ≤ l.length := by
  cases l with
  | nil => cases h
  | cons q t =>
    rw [Dec.qvl_cons] at h
    by_cases hc : (q = 34 ∨ q = 39) ∧ q ∈ t
    · rw [if_pos hc] at h
      cases h
      have := (List.takeWhile_sublist (· != q) (l := t)).length_le
      simp
      omega
    · rw [if_neg hc] at h; cases h
theorem prt_le {l : List UInt8} {p : Dec.Prt × List UInt8} (h : Dec.prt l = some p) : p.1.2.length ≤ l.length := by
  unfold Dec.prt at h
  split at h
  · cases h
  · split at h
    · have h1 := qvl_le h
      have h2 := Dec.dw_len Dec.wht ((((l.dropWhile Dec.wht).dropWhile Dec.ltr).dropWhile Dec.wht).tail)
      rw [List.length_tail] at h2
      have h3 := Dec.dw_len Dec.wht ((l.dropWhile Dec.wht).dropWhile Dec.ltr)
      have h4 := Dec.dw_len Dec.ltr (l.dropWhile Dec.wht)
      have h5 := Dec.dw_len Dec.wht l
      omega
    · cases h
theorem pts_le : ∀ (n : Nat) (l : List UInt8), l.length ≤ n → ∀ p ∈ Dec.pts l, p.2.length ≤ l.length
  | n, l, hn, p, hp => by
    cases hq : Dec.prt l with
    | none => rw [Dec.pts_none hq] at hp; simp at hp
    | some q =>
      rw [Dec.pts_some hq] at hp
      have h1 := Dec.prt_len hq
      rcases List.mem_cons.1 hp with rfl | hp
      · exact prt_le hq
      · cases n with
        | zero => omega
        | succ n =>
          have := pts_le n q.2 (by omega) p hp
          omega
theorem scn_le {b x : List UInt8} (h : Dec.scn b = some x) : x.length ≤ 200 := by
  unfold Dec.scn Dec.fnd at h
  cases hf : (Dec.prts b).find? (fun p => p.1 == Dec.enc8) with
  | none => rw [hf] at h; cases h
  | some q =>
    rw [hf] at h
    cases h
    have hm := List.mem_of_find?_eq_some hf
    unfold Dec.prts at hm
    cases hd : Dec.dcl b with
    | none => rw [hd] at hm; simp at hm
    | some s =>
      rw [hd] at hm
      have h1 := pts_le _ s (Nat.le_refl _) q hm
      have h2 := Dec.ins_len hd
      dsimp only at h1 ⊢
      omega
end Go.Proofs.YtppabkllconkjaaGreatDoor.Snf
/- The landed sniff: put, the four ways, Encoding. -/
namespace Go.Proofs.YtppabkllconkjaaGreatDoor.Snf
open Go.RowKit
set_option linter.unusedVariables false
set_option linter.unusedSimpArgs false
set_option maxRecDepth 100000
set_option maxRecDepth 100000
open Lab (str str_size str_list str_eta str_inj u8v info5 info_parts)
theorem pput_nil (u : Value) (x : Int) (w : World) : Calls Tryz.prog 20 #[u, .int .i64 x, .slice none 0 0] w fun e w' => e = .returned u ∧ w' = w := by
  go_enter Tryz.func20, Tryz.ntmps20
  go_wp2_with fail
  refine wp_loop_rounds 1 ?_; rw [rounds_succ]
  go_wp2_with fail
  go_ret
  exact ⟨rfl, rfl⟩
set_option maxHeartbeats 2000000 in
theorem pput_one (n₀ : Nat) (u : Value) (acc : List Rsn) (x k : Int) (b cap : Nat) (w : World) (hn : n₀ ≤ w.heap.size) (ho : w.ownsRow n₀ 40 2 u acc.length (cellsR acc)) (hk : w.cell? ⟨b, 0, none⟩ = some (.int .i8 k)) (hl : acc.length ≤ 20) :
    Calls Tryz.prog 20 #[u, .int .i64 x, .slice (some ⟨b, 0, none⟩) 1 cap] w fun e w' => ∃ u', e = .returned u' ∧ w'.ownsRow n₀ 40 2 u' (acc ++ [(k, x)]).length (cellsR (acc ++ [(k, x)])) ∧ Below n₀ w w' := by
  obtain ⟨i0, hi, hz0, hz1, hz2⟩ := info_parts infoR
  have HO := Lib.hid ho
  clear ho
  go_enter Tryz.func20, Tryz.ntmps20
  go_wp2_with fail
  refine wp_loop_rounds 2 ?_; rw [rounds_succ]
  go_wp2_with (at_builtin; refine wpList_append_lies _ rfl _ _ _ rfl n₀ 40 i0 _ 2 16 Tryz.underlying24 hi hz0 hz1 hz2 rfl (by omega) _ acc.length (cellsR acc) rfl (World.ownsRow.alloc HO.out _) ⟨w.heap.size, 0, none⟩ 1 1 [.int .i8 k, .int .i64 x] rfl rfl (by have := World.news_of_block (t := 40) (fr := (0, 0)) (heap_alloc_new w (.cells #[.int .i8 k, .int .i64 x] 40)); simpa using this) (by simp [Value.oneCell']) (by omega) (by unfold maxLen; omega) (by omega) (by simp; omega) (w.heap.size + 1) (by simp) ?_; intro g3 cap3 w3 hown3 hgrow3 hat3 hlt3; have OA3 := Lib.hid hown3; have BA3 := Lib.hid (appR hn HO.out hgrow3); clear hown3 hgrow3 hat3 hlt3)
  rw [rounds_succ]
  go_wp2_with fail
  go_ret
  refine ⟨_, rfl, ?_, BA3.out⟩
  have := OA3.out
  rw [List.length_append, cellsR_app]
  exact this
/-- The ways, in the order in which they are asked. -/
def waysV : Array Value := #[.func (.func 44) #[] #[], .func (.func 45) #[] #[], .func (.func 46) #[] #[], .func (.func 47) #[] #[]]
theorem info_ways : (Tryz.prog.info? 51).map (fun i => (i.zero, i.size)) = some (some (.agg (Array.replicate 4 .nilFunc)), 4) := by kernel_rfl
theorem one_ways : waysV.all (·.oneCell') = true := by simp [waysV, Value.oneCell']
theorem pways_any (w : World) : Calls Tryz.prog 23 #[] w fun e w' => e = .returned (.agg waysV) ∧ Below w.heap.size w w' := by
  go_enter Tryz.func23, Tryz.ntmps23
  go_wp2_with (first
    | (refine U.wpList_alloc_agg _ rfl 51 rfl _ 4 info_ways ?_)
    | (refine U.wpList_store_agg _ rfl 51 _ _ rfl _ waysV 4 info_ways rfl rfl one_ways rfl rfl ?_; intro w1 hk1 hb1))
  refine bodyPost_ret (results_cell_row rfl _ _ w.heap.size 51 waysV (0, 0) _ rfl hk1 Tryz.underlying51 rfl (zero_of_info info_ways).2) rfl ?_
  exact ⟨rfl, hb1⟩
/-- How a way answers. -/
def WaR (a : Ans) (w : World) (e : Ending) (w' : World) : Prop := e = .returned (.tuple #[.int .i8 a.1, .int .i8 a.2]) ∧ Below w.heap.size w w'
theorem wa_ret {R : Ans} {a b : Int} {w w' : World} (h : R = (a, b)) (hb : Below w.heap.size w w') : Ending.returned (.tuple #[.int .i8 a, .int .i8 b]) = .returned (.tuple #[.int .i8 R.1, .int .i8 R.2]) ∧ Below w.heap.size w w' := by
  subst h
  exact ⟨rfl, hb⟩
set_option maxHeartbeats 2000000 in
theorem pmark_way (kind body : List UInt8) (w : World) : Calls Tryz.prog 44 #[.agg #[.string (str kind), .string (str body)]] w fun e w' => WaR (markA body) w e w' := by
  have HM : Hid (∀ w, Calls Tryz.prog 22 #[.string (str body)] w fun e w' => e = .returned (Dec.markV (Dec.mrk body)) ∧ Below w.heap.size w w') := Lib.hid fun w => Dec.pmark_any body w
  unfold WaR
  have HR0 : Hid (markA body = seenA ((Dec.mrk body).map (·.1))) := Lib.hid rfl
  obtain ⟨R, hR⟩ : ∃ R, markA body = R := ⟨_, rfl⟩
  rw [hR] at HR0 ⊢
  clear hR
  obtain ⟨S1, hS1⟩ : ∃ S, str kind = S := ⟨_, rfl⟩
  obtain ⟨S2, hS2⟩ : ∃ S, str body = S := ⟨_, rfl⟩
  rw [hS1, hS2]
  rw [hS2] at HM
  clear hS1 hS2
  cases hm : Dec.mrk body with
  | none =>
    rw [hm] at HM HR0
    have HR : Hid (R = (0, 0)) := Lib.hid HR0.out
    have H1 : Hid (∀ w, Calls Tryz.prog 22 #[.string S2] w fun e w' => e = .returned (.tuple #[.int .i8 0, .int .i64 0, .bool false]) ∧ Below w.heap.size w w') := Lib.hid HM.out
    have H2 : Hid (∀ w, Calls Tryz.prog 83 #[.int .i8 0, .bool false] w fun e w' => e = .returned (.tuple #[.int .i8 0, .int .i8 0]) ∧ w' = w) := Lib.hid fun w => pseen_any 0 false w
    clear HM HR0 hm
    go_enter Tryz.func44, Tryz.ntmps44
    go_wp2_with (first
      | (go_at_call 22; refine (H1.out _).mono ?_; rintro _ w3 ⟨rfl, hb3⟩; have HB3 := Lib.hid (below_call ((Below.refl _ w).alloc (Nat.le_refl _) _) hb3); clear H1 hb3)
      | (go_at_call 83; refine (H2.out _).mono ?_; rintro _ w9 ⟨rfl, hw9⟩; subst w9; clear H2))
    go_ret2
    exact wa_ret HR.out HB3.out
  | some m =>
    rw [hm] at HM HR0
    obtain ⟨m1, m2⟩ := m
    have HR : Hid (R = ((m1 : Int), 2)) := Lib.hid HR0.out
    have H1 : Hid (∀ w, Calls Tryz.prog 22 #[.string S2] w fun e w' => e = .returned (.tuple #[.int .i8 (m1 : Int), .int .i64 (m2 : Int), .bool true]) ∧ Below w.heap.size w w') := Lib.hid HM.out
    have H2 : Hid (∀ w, Calls Tryz.prog 83 #[.int .i8 (m1 : Int), .bool true] w fun e w' => e = .returned (.tuple #[.int .i8 (m1 : Int), .int .i8 2]) ∧ w' = w) := Lib.hid fun w => pseen_any _ true w
    clear HM HR0 hm
    go_enter Tryz.func44, Tryz.ntmps44
    go_wp2_with (first
      | (go_at_call 22; refine (H1.out _).mono ?_; rintro _ w3 ⟨rfl, hb3⟩; have HB3 := Lib.hid (below_call ((Below.refl _ w).alloc (Nat.le_refl _) _) hb3); clear H1 hb3)
      | (go_at_call 83; refine (H2.out _).mono ?_; rintro _ w9 ⟨rfl, hw9⟩; subst w9; clear H2))
    go_ret2
    exact wa_ret HR.out HB3.out
set_option maxHeartbeats 2000000 in
theorem pshape_way (kind body : List UInt8) (w : World) : Calls Tryz.prog 46 #[.agg #[.string (str kind), .string (str body)]] w fun e w' => WaR (shapeA body) w e w' := by
  have HM : Hid (∀ w, Calls Tryz.prog 86 #[.string (str body)] w fun e w' => e = .returned (Dec.shapeV (Dec.shp body)) ∧ Below w.heap.size w w') := Lib.hid fun w => Dec.pshape_any body w
  unfold WaR
  have HR0 : Hid (shapeA body = seenA (Dec.shp body)) := Lib.hid rfl
  obtain ⟨R, hR⟩ : ∃ R, shapeA body = R := ⟨_, rfl⟩
  rw [hR] at HR0 ⊢
  clear hR
  obtain ⟨S1, hS1⟩ : ∃ S, str kind = S := ⟨_, rfl⟩
  obtain ⟨S2, hS2⟩ : ∃ S, str body = S := ⟨_, rfl⟩
  rw [hS1, hS2]
  rw [hS2] at HM
  clear hS1 hS2
  cases hm : Dec.shp body with
  | none =>
    rw [hm] at HM HR0
    have HR : Hid (R = (0, 0)) := Lib.hid HR0.out
    have H1 : Hid (∀ w, Calls Tryz.prog 86 #[.string S2] w fun e w' => e = .returned (.tuple #[.int .i8 0, .bool false]) ∧ Below w.heap.size w w') := Lib.hid HM.out
    have H2 : Hid (∀ w, Calls Tryz.prog 83 #[.int .i8 0, .bool false] w fun e w' => e = .returned (.tuple #[.int .i8 0, .int .i8 0]) ∧ w' = w) := Lib.hid fun w => pseen_any 0 false w
    clear HM HR0 hm
    go_enter Tryz.func46, Tryz.ntmps46
    go_wp2_with (first
      | (go_at_call 86; refine (H1.out _).mono ?_; rintro _ w3 ⟨rfl, hb3⟩; have HB3 := Lib.hid (below_call ((Below.refl _ w).alloc (Nat.le_refl _) _) hb3); clear H1 hb3)
      | (go_at_call 83; refine (H2.out _).mono ?_; rintro _ w9 ⟨rfl, hw9⟩; subst w9; clear H2))
    go_ret2
    exact wa_ret HR.out HB3.out
  | some m =>
    rw [hm] at HM HR0
    obtain ⟨m1, hm1⟩ : ∃ m1, m = m1 := ⟨_, rfl⟩; subst hm1
    have HR : Hid (R = ((m : Int), 2)) := Lib.hid HR0.out
    have H1 : Hid (∀ w, Calls Tryz.prog 86 #[.string S2] w fun e w' => e = .returned (.tuple #[.int .i8 (m : Int), .bool true]) ∧ Below w.heap.size w w') := Lib.hid HM.out
    have H2 : Hid (∀ w, Calls Tryz.prog 83 #[.int .i8 (m : Int), .bool true] w fun e w' => e = .returned (.tuple #[.int .i8 (m : Int), .int .i8 2]) ∧ w' = w) := Lib.hid fun w => pseen_any _ true w
    clear HM HR0 hm
    go_enter Tryz.func46, Tryz.ntmps46
    go_wp2_with (first
      | (go_at_call 86; refine (H1.out _).mono ?_; rintro _ w3 ⟨rfl, hb3⟩; have HB3 := Lib.hid (below_call ((Below.refl _ w).alloc (Nat.le_refl _) _) hb3); clear H1 hb3)
      | (go_at_call 83; refine (H2.out _).mono ?_; rintro _ w9 ⟨rfl, hw9⟩; subst w9; clear H2))
    go_ret2
    exact wa_ret HR.out HB3.out
set_option maxHeartbeats 4000000 in
theorem pcharset_way (kind body : List UInt8) (w : World) (hG : G8 w) (hk : kind.length ≤ 5000) : Calls Tryz.prog 45 #[.agg #[.string (str kind), .string (str body)]] w fun e w' => WaR (chsA kind) w e w' := by
  have htot := Med.medOf_tot kind
  have HP : Hid (∀ w', Calls Tryz.prog 41 #[.string (str kind)] w' fun e w'' => Med.ParseU (Med.parse kind) w' e w'') := Lib.hid fun w' => Med.parse_str kind w' (by omega)
  unfold Med.ParseU at HP
  unfold WaR
  obtain ⟨m, hm⟩ : ∃ m, Med.medOf (Med.parse kind) = m := ⟨_, rfl⟩
  have htm : m.1.length ≤ 100000 ∧ m.2.length ≤ maxLen ∧ Med.tot m ≤ 5000 := by
    have h1 : (Med.parse kind).getD ([], []) = m := hm
    rw [h1] at htot
    have h2 := htot.1
    unfold Med.tot at h2 ⊢
    unfold maxLen; omega
  have HC : Hid (∀ u w', Med.Prs w' u m.2 → Calls Tryz.prog 85 #[.agg #[.string (str m.1), u]] w' fun e w'' => e = .returned (.tuple #[.string (str (chK kind).1), .bool (chK kind).2]) ∧ Below w'.heap.size w' w'') := Lib.hid fun u w' h => by
    have := Med.charset_any m u w' h htm.2.1
    unfold Med.ChE at this
    have e : chK kind = Med.chs m.2 := by unfold chK; rw [hm]
    rwa [← e] at this
  rw [hm] at HP
  have hcx : (chK kind).1.length ≤ 100000 := by
    have e : chK kind = Med.chs m.2 := by unfold chK; rw [hm]
    rw [e]
    have := chs_len m.2
    have h3 := htm.2.2
    unfold Med.tot at h3
    omega
  have HN : Hid (∀ w', G8 w' → Calls Tryz.prog 84 #[.string (str (chK kind).1), .bool (chK kind).2] w' fun e w'' => e = .returned (.tuple #[.int .i8 (chsA kind).1, .int .i8 (chsA kind).2]) ∧ Below w'.heap.size w' w'') := Lib.hid fun w' g => pnamed_any _ _ w' g hcx
  have HGN : Hid (∀ w', Below w.heap.size w w' → G8 w') := Lib.hid fun w' h => hG.next h
  obtain ⟨R, hR⟩ : ∃ R, chsA kind = R := ⟨_, rfl⟩
  rw [hR] at HN ⊢
  obtain ⟨c, t, hc⟩ : ∃ c t, chK kind = (c, t) := ⟨_, _, rfl⟩
  rw [hc] at HC HN
  dsimp only at HC HN
  obtain ⟨Y, hY⟩ : ∃ Y, str m.1 = Y := ⟨_, rfl⟩
  rw [hY] at HP HC
  obtain ⟨NN, hNN⟩ : ∃ N, m.2.length = N := ⟨_, rfl⟩
  rw [hNN] at HP
  obtain ⟨EE, hEE⟩ : ∃ E, Med.errOf (Med.parse kind) = E := ⟨_, rfl⟩
  rw [hEE] at HP
  obtain ⟨C, hC⟩ : ∃ C, str c = C := ⟨_, rfl⟩
  rw [hC] at HC HN
  obtain ⟨S1, hS1⟩ : ∃ S, str kind = S := ⟨_, rfl⟩
  obtain ⟨S2, hS2⟩ : ∃ S, str body = S := ⟨_, rfl⟩
  rw [hS1] at HP ⊢
  rw [hS2]
  have HB0 : Hid (∀ o, Below w.heap.size w (w.alloc o)) := Lib.hid fun o => (Below.refl _ _).alloc (Nat.le_refl _) o
  clear hS1 hS2 hC hEE hNN hY hc hR hcx htm hm htot hk hG
  go_enter Tryz.func45, Tryz.ntmps45
  go_wp2_with (first
    | (go_at_call 41; refine (HP.out _).mono ?_; rintro _ w3 ⟨p3, cap3, rfl, hp3, hb3⟩; have HB3 := Lib.hid (below_call (HB0.out _) hb3); clear HP hb3)
    | (go_at_call 85; refine (HC.out _ _ (prs_alloc hp3 _)).mono ?_; rintro _ w4 ⟨rfl, hb4⟩; have HB4 := Lib.hid (below_call ((HB3.out).alloc (HB3.out).size _) hb4); clear HC hb4)
    | (go_at_call 84; refine (HN.out _ (HGN.out _ HB4.out)).mono ?_; rintro _ w5 ⟨rfl, hb5⟩; have HB5 := Lib.hid (below_call HB4.out hb5); clear HN hb5))
  go_ret2
  exact ⟨rfl, HB5.out⟩
set_option maxHeartbeats 4000000 in
theorem pdeclared_way (kind body : List UInt8) (w : World) (hG : G8 w) (hb : body.length ≤ 10000) : Calls Tryz.prog 47 #[.agg #[.string (str kind), .string (str body)]] w fun e w' => WaR (declA body) w e w' := by
  have HN : Hid (∀ w', G8 w' → Calls Tryz.prog 87 #[.string (str body)] w' fun e w'' => e = .returned (Dec.scanV (Dec.scn body)) ∧ Below w'.heap.size w' w'') := Lib.hid fun w' g => Dec.pscan_any body w' g.m (by unfold maxLen; omega)
  have HGN : Hid (∀ w', Below w.heap.size w w' → G8 w') := Lib.hid fun w' h => hG.next h
  have HB0 : Hid (∀ o, Below w.heap.size w (w.alloc o)) := Lib.hid fun o => (Below.refl _ _).alloc (Nat.le_refl _) o
  unfold WaR
  have HD : Hid (declA body = turnA (namedA (scnP body).1 (scnP body).2)) := Lib.hid rfl
  obtain ⟨R, hR⟩ : ∃ R, declA body = R := ⟨_, rfl⟩
  rw [hR] at HD ⊢
  unfold scnP at HD
  cases hs : Dec.scn body with
  | none =>
    rw [hs] at HN HD
    have HR : Hid (R = (0, 0)) := Lib.hid (by rw [HD.out]; rfl)
    have H1 : Hid (∀ w', G8 w' → Calls Tryz.prog 87 #[.string (str body)] w' fun e w'' => e = .returned (.tuple #[.string ⟨#[]⟩, .bool false]) ∧ Below w'.heap.size w' w'') := Lib.hid HN.out
    have H2 : Hid (∀ w', G8 w' → Calls Tryz.prog 84 #[.string ⟨#[]⟩, .bool false] w' fun e w'' => e = .returned (.tuple #[.int .i8 0, .int .i8 0]) ∧ Below w'.heap.size w' w'') := Lib.hid fun w' g => pnamed_any [] false w' g (by simp)
    obtain ⟨S1, hS1⟩ : ∃ S, str kind = S := ⟨_, rfl⟩
    obtain ⟨S2, hS2⟩ : ∃ S, str body = S := ⟨_, rfl⟩
    rw [hS1, hS2]
    rw [hS2] at H1
    clear hS1 hS2 hs hR HD HN hb hG
    go_enter Tryz.func47, Tryz.ntmps47
    go_wp2_with (first
      | (go_at_call 87; refine (H1.out _ (HGN.out _ (HB0.out _))).mono ?_; rintro _ w3 ⟨rfl, hb3⟩; have HB3 := Lib.hid (below_call (HB0.out _) hb3); clear H1 hb3)
      | (go_at_call 84; refine (H2.out _ (HGN.out _ HB3.out)).mono ?_; rintro _ w4 ⟨rfl, hb4⟩; have HB4 := Lib.hid (below_call HB3.out hb4); clear H2 hb4))
    go_ret2
    exact wa_ret HR.out HB4.out
  | some x =>
    rw [hs] at HN HD
    have hxl := scn_le hs
    have HD2 : Hid (R = turnA (namedA x true)) := Lib.hid HD.out
    have H1 : Hid (∀ w', G8 w' → Calls Tryz.prog 87 #[.string (str body)] w' fun e w'' => e = .returned (.tuple #[.string (str x), .bool true]) ∧ Below w'.heap.size w' w'') := Lib.hid HN.out
    have H2 : Hid (∀ w', G8 w' → Calls Tryz.prog 84 #[.string (str x), .bool true] w' fun e w'' => e = .returned (.tuple #[.int .i8 (namedA x true).1, .int .i8 (namedA x true).2]) ∧ Below w'.heap.size w' w'') := Lib.hid fun w' g => pnamed_any x true w' g (by omega)
    have hn3 := namedA_bd x true
    obtain ⟨o, a, hoa⟩ : ∃ o a, namedA x true = (o, a) := ⟨_, _, rfl⟩
    rw [hoa] at H2 HD2 hn3
    dsimp only at H2 hn3
    obtain ⟨X, hX⟩ : ∃ X, str x = X := ⟨_, rfl⟩
    rw [hX] at H1 H2
    obtain ⟨S1, hS1⟩ : ∃ S, str kind = S := ⟨_, rfl⟩
    obtain ⟨S2, hS2⟩ : ∃ S, str body = S := ⟨_, rfl⟩
    rw [hS1, hS2]
    rw [hS2] at H1
    clear hS1 hS2 hX hoa hxl hs hR HD HN hb hG
    have H3 : Hid (∀ w, Calls Tryz.prog 88 #[.int .i8 o] w fun e w' => e = .returned (.bool (decide (o = 1 ∨ o = 2))) ∧ w' = w) := Lib.hid fun w => put16_any o w
    rcases hn3 with rfl | rfl | rfl
    · have HR : Hid (R = (o, 0)) := Lib.hid HD2.out
      clear HD2 H3
      go_enter Tryz.func47, Tryz.ntmps47
      go_wp2_with (first
      | (go_at_call 87; refine (H1.out _ (HGN.out _ (HB0.out _))).mono ?_; rintro _ w3 ⟨rfl, hb3⟩; have HB3 := Lib.hid (below_call (HB0.out _) hb3); clear H1 hb3)
      | (go_at_call 84; refine (H2.out _ (HGN.out _ HB3.out)).mono ?_; rintro _ w4 ⟨rfl, hb4⟩; have HB4 := Lib.hid (below_call HB3.out hb4); clear H2 hb4))
      go_ret2
      exact wa_ret HR.out HB4.out
    · have HR : Hid (R = (o, 1)) := Lib.hid HD2.out
      clear HD2 H3
      go_enter Tryz.func47, Tryz.ntmps47
      go_wp2_with (first
      | (go_at_call 87; refine (H1.out _ (HGN.out _ (HB0.out _))).mono ?_; rintro _ w3 ⟨rfl, hb3⟩; have HB3 := Lib.hid (below_call (HB0.out _) hb3); clear H1 hb3)
      | (go_at_call 84; refine (H2.out _ (HGN.out _ HB3.out)).mono ?_; rintro _ w4 ⟨rfl, hb4⟩; have HB4 := Lib.hid (below_call HB3.out hb4); clear H2 hb4))
      go_ret2
      exact wa_ret HR.out HB4.out
    · by_cases ho : o = 1 ∨ o = 2
      · have HR : Hid (R = (0, 1)) := Lib.hid (by rw [HD2.out]; unfold turnA; rw [if_pos ⟨rfl, ho⟩])
        have H4 : Hid (∀ w, Calls Tryz.prog 88 #[.int .i8 o] w fun e w' => e = .returned (.bool true) ∧ w' = w) := Lib.hid fun w => (H3.out w).mono fun e w' h => ⟨by rw [h.1, decide_eq_true ho], h.2⟩
        clear HD2 H3 ho
        go_enter Tryz.func47, Tryz.ntmps47
        go_wp2_with (first
      | (go_at_call 87; refine (H1.out _ (HGN.out _ (HB0.out _))).mono ?_; rintro _ w3 ⟨rfl, hb3⟩; have HB3 := Lib.hid (below_call (HB0.out _) hb3); clear H1 hb3)
      | (go_at_call 84; refine (H2.out _ (HGN.out _ HB3.out)).mono ?_; rintro _ w4 ⟨rfl, hb4⟩; have HB4 := Lib.hid (below_call HB3.out hb4); clear H2 hb4)
      | (go_at_call 88; refine (H4.out _).mono ?_; rintro _ w9 ⟨rfl, hw9⟩; subst w9; clear H4))
        go_ret2
        exact wa_ret HR.out HB4.out
      · have HR : Hid (R = (o, 2)) := Lib.hid (by rw [HD2.out]; unfold turnA; rw [if_neg (fun h => ho h.2)])
        have H4 : Hid (∀ w, Calls Tryz.prog 88 #[.int .i8 o] w fun e w' => e = .returned (.bool false) ∧ w' = w) := Lib.hid fun w => (H3.out w).mono fun e w' h => ⟨by rw [h.1, decide_eq_false ho], h.2⟩
        clear HD2 H3 ho
        go_enter Tryz.func47, Tryz.ntmps47
        go_wp2_with (first
      | (go_at_call 87; refine (H1.out _ (HGN.out _ (HB0.out _))).mono ?_; rintro _ w3 ⟨rfl, hb3⟩; have HB3 := Lib.hid (below_call (HB0.out _) hb3); clear H1 hb3)
      | (go_at_call 84; refine (H2.out _ (HGN.out _ HB3.out)).mono ?_; rintro _ w4 ⟨rfl, hb4⟩; have HB4 := Lib.hid (below_call HB3.out hb4); clear H2 hb4)
      | (go_at_call 88; refine (H4.out _).mono ?_; rintro _ w9 ⟨rfl, hw9⟩; subst w9; clear H4))
        go_ret2
        exact wa_ret HR.out HB4.out
end Go.Proofs.YtppabkllconkjaaGreatDoor.Snf
/- The landed sniff: Encoding. -/
namespace Go.Proofs.YtppabkllconkjaaGreatDoor.Snf
open Go.RowKit
set_option linter.unusedVariables false
set_option linter.unusedSimpArgs false
set_option maxRecDepth 100000
set_option maxRecDepth 100000
open Lab (str str_size str_list str_eta str_inj u8v info5 info_parts)
theorem info_src : (Tryz.prog.info? 44).map (fun i => (i.zero, i.size)) = some (some (.agg (Array.replicate 2 (.string ⟨#[]⟩))), 2) := by kernel_rfl
theorem ix_ways0 (w : World) : (Instr.index 51 (.agg waysV) (.int .i64 0)).run Tryz.prog w = .ok (.func (.func 44) #[] #[]) w := by kernel_rfl
theorem ix_ways1 (w : World) : (Instr.index 51 (.agg waysV) (.int .i64 1)).run Tryz.prog w = .ok (.func (.func 45) #[] #[]) w := by kernel_rfl
theorem ix_ways2 (w : World) : (Instr.index 51 (.agg waysV) (.int .i64 2)).run Tryz.prog w = .ok (.func (.func 46) #[] #[]) w := by kernel_rfl
theorem ix_ways3 (w : World) : (Instr.index 51 (.agg waysV) (.int .i64 3)).run Tryz.prog w = .ok (.func (.func 47) #[] #[]) w := by kernel_rfl
/-- faults, and what put makes of it. -/
theorem pfaults_put (kind : List UInt8) (w : World) (hs : kind.length ≤ 100000) : Calls Tryz.prog 21 #[.string (str kind)] w fun e w' => ∃ p n cap, e = .returned (.slice p n cap) ∧ Below w.heap.size w w' ∧
    ∀ n₀, n₀ ≤ w'.heap.size → Calls Tryz.prog 20 #[.slice none 0 0, .int .i64 0, .slice p n cap] w' fun e w'' => ∃ u, e = .returned u ∧ w''.ownsRow n₀ 40 2 u (rs0 kind).length (cellsR (rs0 kind)) ∧ Below n₀ w' w'' := by
  refine (pfaults_any kind w hs).mono fun e w' h => ?_
  obtain ⟨h, hb⟩ := h
  rcases h with ⟨hx, rfl⟩ | ⟨hx, b, cap, rfl, h1, h2, h3⟩
  · refine ⟨none, 0, 0, rfl, hb, fun n₀ hn => (pput_nil _ _ _).mono fun e w'' h => ?_⟩
    obtain ⟨rfl, rfl⟩ := h
    have : rs0 kind = [] := by unfold rs0; rw [if_pos hx]
    rw [this]
    exact ⟨_, rfl, World.ownsRow_nil _ _ _ _, Below.refl _ _⟩
  · refine ⟨_, 1, cap, rfl, hb, fun n₀ hn => (pput_one n₀ (.slice none 0 0) [] 0 0 b cap w' hn (World.ownsRow_nil _ _ _ _) h3 (by simp)).mono fun e w'' h => ?_⟩
    have : rs0 kind = [] ++ [(0, 0)] := by unfold rs0; rw [if_neg (by simp [hx])]; rfl
    rw [this]
    exact h
set_option maxHeartbeats 16000000 in
theorem pencoding_any (kind body : List UInt8) (w : World) (hG : G8 w) (hk : kind.length ≤ 5000) (hb : body.length ≤ 10000) : Calls Tryz.prog 8 #[.string (str kind), .string (str body)] w fun e w' => EnR kind body w e w' := by
  have HF : Hid (∀ w, Calls Tryz.prog 21 #[.string (str kind)] w fun e w' => ∃ p n cap, e = .returned (.slice p n cap) ∧ Below w.heap.size w w' ∧
    ∀ n₀, n₀ ≤ w'.heap.size → Calls Tryz.prog 20 #[.slice none 0 0, .int .i64 0, .slice p n cap] w' fun e w'' => ∃ u, e = .returned u ∧ w''.ownsRow n₀ 40 2 u (rs0 kind).length (cellsR (rs0 kind)) ∧ Below n₀ w' w'') := Lib.hid fun w => pfaults_put kind w (by omega)
  have HM : Hid (∀ w, Calls Tryz.prog 22 #[.string (str body)] w fun e w' => (∃ x ok, e = .returned (.tuple #[.int .i8 x, .int .i64 (skipA body), .bool ok])) ∧ Below w.heap.size w w') := Lib.hid fun w => (Dec.pmark_any body w).mono fun e w' h => by
    refine ⟨?_, h.2⟩
    have h1 : e = .returned (Dec.markV (Dec.mrk body)) := h.1
    rw [h1]
    unfold skipA
    cases Dec.mrk body with
    | none => exact ⟨0, false, rfl⟩
    | some m => exact ⟨_, true, rfl⟩
  have HW0 : Hid (∀ w', G8 w' → Calls Tryz.prog 44 #[.agg #[.string (str kind), .string (str body)]] w' fun e w'' => WaR (wayA kind body 0) w' e w'') := Lib.hid fun w' g => pmark_way kind body w'
  have HW1 : Hid (∀ w', G8 w' → Calls Tryz.prog 45 #[.agg #[.string (str kind), .string (str body)]] w' fun e w'' => WaR (wayA kind body 1) w' e w'') := Lib.hid fun w' g => pcharset_way kind body w' g hk
  have HW2 : Hid (∀ w', G8 w' → Calls Tryz.prog 46 #[.agg #[.string (str kind), .string (str body)]] w' fun e w'' => WaR (wayA kind body 2) w' e w'') := Lib.hid fun w' g => pshape_way kind body w'
  have HW3 : Hid (∀ w', G8 w' → Calls Tryz.prog 47 #[.agg #[.string (str kind), .string (str body)]] w' fun e w'' => WaR (wayA kind body 3) w' e w'') := Lib.hid fun w' g => pdeclared_way kind body w' g hb
  unfold WaR at HW0 HW1 HW2 HW3
  have HBD := Lib.hid (wayA_bd kind body)
  have HEF := Lib.hid (encF_go kind body)
  have hr0 : (rs0 kind).length ≤ 1 := by unfold rs0; split <;> simp
  unfold EnR
  obtain ⟨R, hR⟩ : ∃ R, encF kind body = R := ⟨_, rfl⟩
  rw [hR] at HEF ⊢
  obtain ⟨A, hA⟩ : ∃ A, wayA kind body = A := ⟨_, rfl⟩
  rw [hA] at HW0 HW1 HW2 HW3 HBD HEF
  obtain ⟨l0, hl0⟩ : ∃ l, rs0 kind = l := ⟨_, rfl⟩
  rw [hl0] at HF HEF hr0
  obtain ⟨sk, hsk⟩ : ∃ s, skipA body = s := ⟨_, rfl⟩
  rw [hsk] at HM HEF
  obtain ⟨G, hGo⟩ : ∃ G, goA A 4 0 l0 = G := ⟨_, rfl⟩
  have HGO := Lib.hid hGo
  rw [hGo] at HEF
  have HGN : Hid (∀ w', Below w.heap.size w w' → G8 w') := Lib.hid fun w' h => hG.next h
  obtain ⟨S1, hS1⟩ : ∃ S, str kind = S := ⟨_, rfl⟩
  obtain ⟨S2, hS2⟩ : ∃ S, str body = S := ⟨_, rfl⟩
  rw [hS1] at HF HW0 HW1 HW2 HW3 ⊢
  rw [hS2] at HM HW0 HW1 HW2 HW3 ⊢
  have HR0 := Lib.hid hr0
  clear hS1 hS2 hGo hsk hl0 hA hR hk hb hG hr0
  go_enter Tryz.func8, Tryz.ntmps8
  go_wp2_with fail
  go_step3
  go_wp2_with (first
    | (refine U.wpList_alloc_agg _ rfl 44 rfl _ 2 info_src ?_)
    | (refine U.wpList_store_agg _ rfl 44 _ _ rfl _ #[.string S1, .string S2] 2 info_src rfl rfl (by simp [Value.oneCell']) rfl rfl ?_; intro w1 hk1 hb1; have c0 : w1.cell? ⟨w.heap.size, 0, none⟩ = some (.string S1) := (by rw [hk1.cell]; rfl); have K1 := Lib.hid hk1; have HB1 := Lib.hid hb1; have HL1 : Hid (w.heap.size < w1.heap.size) := Lib.hid hk1.lt; clear hk1 hb1)
    | (go_at_call 21; refine (HF.out _).mono ?_; rintro _ w2 ⟨p2, n2, cap2, rfl, hb2, hput⟩; have HPU := Lib.hid (hput w1.heap.size hb2.size); have HB2 := Lib.hid hb2; clear HF hb2 hput)
    | (go_at_call 20; refine HPU.out.mono ?_; rintro _ w3 ⟨u3, rfl, hu3, hb3⟩; have HU3 := Lib.hid hu3; have HB3 := Lib.hid (HB2.out.trans hb3); clear HPU hu3 hb3)
    | (go_at_call 22; refine (HM.out _).mono ?_; rintro _ w9 ⟨⟨x9, ok9, rfl⟩, hb9⟩; have HU9 := Lib.hid (Dec.own_below (m := 0) HU3.out hb9); have HB9 := Lib.hid (below_call HB3.out hb9); clear HM hb9))
  go_step3
  go_wp2_with (first
    | (go_at_call 23; refine (pways_any _).mono ?_; rintro _ w4 ⟨rfl, hb4⟩; have HU4 := Lib.hid (Dec.own_below (m := 0) HU9.out hb4); have HB4 := Lib.hid (below_call HB9.out hb4); clear hb4))
  go_loopg [4, 6, 27] 5 (fun g q0 q1 q2 wr => ∃ (k : Nat) (acc : List Rsn), k + g = 5 ∧ q0 = .int .i8 0 ∧ q2 = .int .i64 (k : Int) ∧ k ≤ 4 ∧ Hid (acc.length ≤ k + 1) ∧ Hid (wr.ownsRow w1.heap.size 40 2 q1 acc.length (cellsR acc)) ∧ Hid (Below w1.heap.size w1 wr) ∧ Hid (goA A (4 - k) k acc = G))
  case atStart => exact ⟨0, l0, by omega, rfl, rfl, by omega, Lib.hid (by have := HR0.out; omega), Lib.hid HU4.out, Lib.hid HB4.out, Lib.hid HGO.out⟩
  case round =>
    obtain ⟨k, acc, hkg, rfl, rfl, hk4, HAL, HOW, HBE, HGA⟩ := hrel
    have KR : Hid (U.Blk wr w.heap.size #[.string S1, .string S2] 44) := Lib.hid (K1.out.below HBE.out)
    have HB : Hid (∀ w', Below w1.heap.size w1 w' → Below w.heap.size w w') := Lib.hid fun w' h => HB1.out.trans (h.mono (Nat.le_of_lt HL1.out))
    have hcase : k = 0 ∨ k = 1 ∨ k = 2 ∨ k = 3 ∨ k = 4 := by omega
    rcases hcase with rfl | rfl | rfl | rfl | rfl
    · have hix := ix_ways0
      have hn := HBD.out 0
      have HST : Hid (goA A (4 - 0) 0 acc = if (A 0).2 = 2 then ((A 0).1, acc) else goA A (3 - 0) (0 + 1) (if (A 0).2 = 1 then acc ++ [(1, 0)] else acc)) := Lib.hid rfl
      rw [HGA.out] at HST
      have HA := Lib.hid HW0.out
      obtain ⟨o, a, hoa⟩ : ∃ o a, A 0 = (o, a) := ⟨_, _, rfl⟩
      rw [hoa] at HA HST hn
      dsimp only at HA HST hn
      clear hoa
      rcases hn with rfl | rfl | rfl
      · have HG2 : Hid (goA A (4 - (0 + 1)) (0 + 1) acc = G) := Lib.hid (by have h := HST.out; rw [if_neg (by decide), if_neg (by decide)] at h; exact h.symm)
        clear HST
        go_wp2_with (first
          | (refine wpList_load_row rfl 44 _ rfl w.heap.size rfl 44 #[.string S1, .string S2] (0, 0) _ KR.out Tryz.underlying44 rfl (zero_of_info info_src).2 ?_)
          | (go_at_call 44; refine (HA.out _ (HGN.out _ (HB.out _ HBE.out))).mono ?_; rintro _ w5 ⟨rfl, hb5⟩; have HU5 := Lib.hid (Dec.own_below (m := 0) HOW.out hb5); have HB5 := Lib.hid (below_call HBE.out hb5); clear hb5))
        go_roundg (gk - 1)
        case measure => omega
        case rel => exact ⟨0 + 1, acc, by omega, rfl, by go_num, by omega, Lib.hid (by have := HAL.out; omega), HU5, HB5, HG2⟩
      · have HG2 : Hid (goA A (4 - (0 + 1)) (0 + 1) (acc ++ [(1, 0)]) = G) := Lib.hid (by have h := HST.out; rw [if_neg (by decide), if_pos rfl] at h; exact h.symm)
        clear HST
        go_wp2_with (first
          | (refine wpList_load_row rfl 44 _ rfl w.heap.size rfl 44 #[.string S1, .string S2] (0, 0) _ KR.out Tryz.underlying44 rfl (zero_of_info info_src).2 ?_)
          | (go_at_call 44; refine (HA.out _ (HGN.out _ (HB.out _ HBE.out))).mono ?_; rintro _ w5 ⟨rfl, hb5⟩; have HU5 := Lib.hid (Dec.own_below (m := 0) HOW.out hb5); have HB5 := Lib.hid (below_call HBE.out hb5); clear hb5)
          | (go_at_call 20; refine (pput_one w1.heap.size _ acc 0 1 w5.heap.size 1 _ (by have := HB5.out.size; simp; omega) (World.ownsRow.alloc HU5.out _) (by rw [World.cell?_alloc_at _ _ _ _ (by simp)]; rfl) (by have := HAL.out; omega)).mono ?_; rintro _ w6 ⟨u6, rfl, hu6, hb6⟩; have HU6 := Lib.hid hu6; have HB6 := Lib.hid ((HB5.out.alloc HB5.out.size _).trans hb6); clear hu6 hb6))
        go_roundg (gk - 1)
        case measure => omega
        case rel => exact ⟨0 + 1, acc ++ [(1, 0)], by omega, rfl, by go_num, by omega, Lib.hid (by have := HAL.out; rw [List.length_append]; simp only [List.length_cons, List.length_nil]; omega), HU6, HB6, HG2⟩
      · have HG2 : Hid (G = (o, acc)) := Lib.hid (by have h := HST.out; rw [if_pos rfl] at h; exact h)
        have HR : Hid (R = (o, sk, acc)) := Lib.hid (by rw [HEF.out, HG2.out])
        clear HST HG2
        go_wp2_with (first
          | (refine wpList_load_row rfl 44 _ rfl w.heap.size rfl 44 #[.string S1, .string S2] (0, 0) _ KR.out Tryz.underlying44 rfl (zero_of_info info_src).2 ?_)
          | (go_at_call 44; refine (HA.out _ (HGN.out _ (HB.out _ HBE.out))).mono ?_; rintro _ w5 ⟨rfl, hb5⟩; have HU5 := Lib.hid (Dec.own_below (m := 0) HOW.out hb5); have HB5 := Lib.hid (below_call HBE.out hb5); clear hb5))
        try rw [Exit.noGoto_ret]
        go_ret3
        exact en_ret HR.out (HU5.out.mono (Nat.le_of_lt HL1.out)) (HB.out _ HB5.out)
    · have hix := ix_ways1
      have hn := HBD.out 1
      have HST : Hid (goA A (4 - 1) 1 acc = if (A 1).2 = 2 then ((A 1).1, acc) else goA A (3 - 1) (1 + 1) (if (A 1).2 = 1 then acc ++ [(1, 0)] else acc)) := Lib.hid rfl
      rw [HGA.out] at HST
      have HA := Lib.hid HW1.out
      obtain ⟨o, a, hoa⟩ : ∃ o a, A 1 = (o, a) := ⟨_, _, rfl⟩
      rw [hoa] at HA HST hn
      dsimp only at HA HST hn
      clear hoa
      rcases hn with rfl | rfl | rfl
      · have HG2 : Hid (goA A (4 - (1 + 1)) (1 + 1) acc = G) := Lib.hid (by have h := HST.out; rw [if_neg (by decide), if_neg (by decide)] at h; exact h.symm)
        clear HST
        go_wp2_with (first
          | (refine wpList_load_row rfl 44 _ rfl w.heap.size rfl 44 #[.string S1, .string S2] (0, 0) _ KR.out Tryz.underlying44 rfl (zero_of_info info_src).2 ?_)
          | (go_at_call 45; refine (HA.out _ (HGN.out _ (HB.out _ HBE.out))).mono ?_; rintro _ w5 ⟨rfl, hb5⟩; have HU5 := Lib.hid (Dec.own_below (m := 0) HOW.out hb5); have HB5 := Lib.hid (below_call HBE.out hb5); clear hb5))
        go_roundg (gk - 1)
        case measure => omega
        case rel => exact ⟨1 + 1, acc, by omega, rfl, by go_num, by omega, Lib.hid (by have := HAL.out; omega), HU5, HB5, HG2⟩
      · have HG2 : Hid (goA A (4 - (1 + 1)) (1 + 1) (acc ++ [(1, 0)]) = G) := Lib.hid (by have h := HST.out; rw [if_neg (by decide), if_pos rfl] at h; exact h.symm)
        clear HST
        go_wp2_with (first
          | (refine wpList_load_row rfl 44 _ rfl w.heap.size rfl 44 #[.string S1, .string S2] (0, 0) _ KR.out Tryz.underlying44 rfl (zero_of_info info_src).2 ?_)
          | (go_at_call 45; refine (HA.out _ (HGN.out _ (HB.out _ HBE.out))).mono ?_; rintro _ w5 ⟨rfl, hb5⟩; have HU5 := Lib.hid (Dec.own_below (m := 0) HOW.out hb5); have HB5 := Lib.hid (below_call HBE.out hb5); clear hb5)
          | (go_at_call 20; refine (pput_one w1.heap.size _ acc 0 1 w5.heap.size 1 _ (by have := HB5.out.size; simp; omega) (World.ownsRow.alloc HU5.out _) (by rw [World.cell?_alloc_at _ _ _ _ (by simp)]; rfl) (by have := HAL.out; omega)).mono ?_; rintro _ w6 ⟨u6, rfl, hu6, hb6⟩; have HU6 := Lib.hid hu6; have HB6 := Lib.hid ((HB5.out.alloc HB5.out.size _).trans hb6); clear hu6 hb6))
        go_roundg (gk - 1)
        case measure => omega
        case rel => exact ⟨1 + 1, acc ++ [(1, 0)], by omega, rfl, by go_num, by omega, Lib.hid (by have := HAL.out; rw [List.length_append]; simp only [List.length_cons, List.length_nil]; omega), HU6, HB6, HG2⟩
      · have HG2 : Hid (G = (o, acc)) := Lib.hid (by have h := HST.out; rw [if_pos rfl] at h; exact h)
        have HR : Hid (R = (o, sk, acc)) := Lib.hid (by rw [HEF.out, HG2.out])
        clear HST HG2
        go_wp2_with (first
          | (refine wpList_load_row rfl 44 _ rfl w.heap.size rfl 44 #[.string S1, .string S2] (0, 0) _ KR.out Tryz.underlying44 rfl (zero_of_info info_src).2 ?_)
          | (go_at_call 45; refine (HA.out _ (HGN.out _ (HB.out _ HBE.out))).mono ?_; rintro _ w5 ⟨rfl, hb5⟩; have HU5 := Lib.hid (Dec.own_below (m := 0) HOW.out hb5); have HB5 := Lib.hid (below_call HBE.out hb5); clear hb5))
        try rw [Exit.noGoto_ret]
        go_ret3
        exact en_ret HR.out (HU5.out.mono (Nat.le_of_lt HL1.out)) (HB.out _ HB5.out)
    · have hix := ix_ways2
      have hn := HBD.out 2
      have HST : Hid (goA A (4 - 2) 2 acc = if (A 2).2 = 2 then ((A 2).1, acc) else goA A (3 - 2) (2 + 1) (if (A 2).2 = 1 then acc ++ [(1, 0)] else acc)) := Lib.hid rfl
      rw [HGA.out] at HST
      have HA := Lib.hid HW2.out
      obtain ⟨o, a, hoa⟩ : ∃ o a, A 2 = (o, a) := ⟨_, _, rfl⟩
      rw [hoa] at HA HST hn
      dsimp only at HA HST hn
      clear hoa
      rcases hn with rfl | rfl | rfl
      · have HG2 : Hid (goA A (4 - (2 + 1)) (2 + 1) acc = G) := Lib.hid (by have h := HST.out; rw [if_neg (by decide), if_neg (by decide)] at h; exact h.symm)
        clear HST
        go_wp2_with (first
          | (refine wpList_load_row rfl 44 _ rfl w.heap.size rfl 44 #[.string S1, .string S2] (0, 0) _ KR.out Tryz.underlying44 rfl (zero_of_info info_src).2 ?_)
          | (go_at_call 46; refine (HA.out _ (HGN.out _ (HB.out _ HBE.out))).mono ?_; rintro _ w5 ⟨rfl, hb5⟩; have HU5 := Lib.hid (Dec.own_below (m := 0) HOW.out hb5); have HB5 := Lib.hid (below_call HBE.out hb5); clear hb5))
        go_roundg (gk - 1)
        case measure => omega
        case rel => exact ⟨2 + 1, acc, by omega, rfl, by go_num, by omega, Lib.hid (by have := HAL.out; omega), HU5, HB5, HG2⟩
      · have HG2 : Hid (goA A (4 - (2 + 1)) (2 + 1) (acc ++ [(1, 0)]) = G) := Lib.hid (by have h := HST.out; rw [if_neg (by decide), if_pos rfl] at h; exact h.symm)
        clear HST
        go_wp2_with (first
          | (refine wpList_load_row rfl 44 _ rfl w.heap.size rfl 44 #[.string S1, .string S2] (0, 0) _ KR.out Tryz.underlying44 rfl (zero_of_info info_src).2 ?_)
          | (go_at_call 46; refine (HA.out _ (HGN.out _ (HB.out _ HBE.out))).mono ?_; rintro _ w5 ⟨rfl, hb5⟩; have HU5 := Lib.hid (Dec.own_below (m := 0) HOW.out hb5); have HB5 := Lib.hid (below_call HBE.out hb5); clear hb5)
          | (go_at_call 20; refine (pput_one w1.heap.size _ acc 0 1 w5.heap.size 1 _ (by have := HB5.out.size; simp; omega) (World.ownsRow.alloc HU5.out _) (by rw [World.cell?_alloc_at _ _ _ _ (by simp)]; rfl) (by have := HAL.out; omega)).mono ?_; rintro _ w6 ⟨u6, rfl, hu6, hb6⟩; have HU6 := Lib.hid hu6; have HB6 := Lib.hid ((HB5.out.alloc HB5.out.size _).trans hb6); clear hu6 hb6))
        go_roundg (gk - 1)
        case measure => omega
        case rel => exact ⟨2 + 1, acc ++ [(1, 0)], by omega, rfl, by go_num, by omega, Lib.hid (by have := HAL.out; rw [List.length_append]; simp only [List.length_cons, List.length_nil]; omega), HU6, HB6, HG2⟩
      · have HG2 : Hid (G = (o, acc)) := Lib.hid (by have h := HST.out; rw [if_pos rfl] at h; exact h)
        have HR : Hid (R = (o, sk, acc)) := Lib.hid (by rw [HEF.out, HG2.out])
        clear HST HG2
        go_wp2_with (first
          | (refine wpList_load_row rfl 44 _ rfl w.heap.size rfl 44 #[.string S1, .string S2] (0, 0) _ KR.out Tryz.underlying44 rfl (zero_of_info info_src).2 ?_)
          | (go_at_call 46; refine (HA.out _ (HGN.out _ (HB.out _ HBE.out))).mono ?_; rintro _ w5 ⟨rfl, hb5⟩; have HU5 := Lib.hid (Dec.own_below (m := 0) HOW.out hb5); have HB5 := Lib.hid (below_call HBE.out hb5); clear hb5))
        try rw [Exit.noGoto_ret]
        go_ret3
        exact en_ret HR.out (HU5.out.mono (Nat.le_of_lt HL1.out)) (HB.out _ HB5.out)
    · have hix := ix_ways3
      have hn := HBD.out 3
      have HST : Hid (goA A (4 - 3) 3 acc = if (A 3).2 = 2 then ((A 3).1, acc) else goA A (3 - 3) (3 + 1) (if (A 3).2 = 1 then acc ++ [(1, 0)] else acc)) := Lib.hid rfl
      rw [HGA.out] at HST
      have HA := Lib.hid HW3.out
      obtain ⟨o, a, hoa⟩ : ∃ o a, A 3 = (o, a) := ⟨_, _, rfl⟩
      rw [hoa] at HA HST hn
      dsimp only at HA HST hn
      clear hoa
      rcases hn with rfl | rfl | rfl
      · have HG2 : Hid (goA A (4 - (3 + 1)) (3 + 1) acc = G) := Lib.hid (by have h := HST.out; rw [if_neg (by decide), if_neg (by decide)] at h; exact h.symm)
        clear HST
        go_wp2_with (first
          | (refine wpList_load_row rfl 44 _ rfl w.heap.size rfl 44 #[.string S1, .string S2] (0, 0) _ KR.out Tryz.underlying44 rfl (zero_of_info info_src).2 ?_)
          | (go_at_call 47; refine (HA.out _ (HGN.out _ (HB.out _ HBE.out))).mono ?_; rintro _ w5 ⟨rfl, hb5⟩; have HU5 := Lib.hid (Dec.own_below (m := 0) HOW.out hb5); have HB5 := Lib.hid (below_call HBE.out hb5); clear hb5))
        go_roundg (gk - 1)
        case measure => omega
        case rel => exact ⟨3 + 1, acc, by omega, rfl, by go_num, by omega, Lib.hid (by have := HAL.out; omega), HU5, HB5, HG2⟩
      · have HG2 : Hid (goA A (4 - (3 + 1)) (3 + 1) (acc ++ [(1, 0)]) = G) := Lib.hid (by have h := HST.out; rw [if_neg (by decide), if_pos rfl] at h; exact h.symm)
        clear HST
        go_wp2_with (first
          | (refine wpList_load_row rfl 44 _ rfl w.heap.size rfl 44 #[.string S1, .string S2] (0, 0) _ KR.out Tryz.underlying44 rfl (zero_of_info info_src).2 ?_)
          | (go_at_call 47; refine (HA.out _ (HGN.out _ (HB.out _ HBE.out))).mono ?_; rintro _ w5 ⟨rfl, hb5⟩; have HU5 := Lib.hid (Dec.own_below (m := 0) HOW.out hb5); have HB5 := Lib.hid (below_call HBE.out hb5); clear hb5)
          | (go_at_call 20; refine (pput_one w1.heap.size _ acc 0 1 w5.heap.size 1 _ (by have := HB5.out.size; simp; omega) (World.ownsRow.alloc HU5.out _) (by rw [World.cell?_alloc_at _ _ _ _ (by simp)]; rfl) (by have := HAL.out; omega)).mono ?_; rintro _ w6 ⟨u6, rfl, hu6, hb6⟩; have HU6 := Lib.hid hu6; have HB6 := Lib.hid ((HB5.out.alloc HB5.out.size _).trans hb6); clear hu6 hb6))
        go_roundg (gk - 1)
        case measure => omega
        case rel => exact ⟨3 + 1, acc ++ [(1, 0)], by omega, rfl, by go_num, by omega, Lib.hid (by have := HAL.out; rw [List.length_append]; simp only [List.length_cons, List.length_nil]; omega), HU6, HB6, HG2⟩
      · have HG2 : Hid (G = (o, acc)) := Lib.hid (by have h := HST.out; rw [if_pos rfl] at h; exact h)
        have HR : Hid (R = (o, sk, acc)) := Lib.hid (by rw [HEF.out, HG2.out])
        clear HST HG2
        go_wp2_with (first
          | (refine wpList_load_row rfl 44 _ rfl w.heap.size rfl 44 #[.string S1, .string S2] (0, 0) _ KR.out Tryz.underlying44 rfl (zero_of_info info_src).2 ?_)
          | (go_at_call 47; refine (HA.out _ (HGN.out _ (HB.out _ HBE.out))).mono ?_; rintro _ w5 ⟨rfl, hb5⟩; have HU5 := Lib.hid (Dec.own_below (m := 0) HOW.out hb5); have HB5 := Lib.hid (below_call HBE.out hb5); clear hb5))
        try rw [Exit.noGoto_ret]
        go_ret3
        exact en_ret HR.out (HU5.out.mono (Nat.le_of_lt HL1.out)) (HB.out _ HB5.out)
    · have HR : Hid (R = (0, sk, acc)) := Lib.hid (by
        have h : (0, acc) = G := HGA.out
        rw [HEF.out, ← h])
      go_wp2_with fail
      try rw [Exit.noGoto_ret]
      go_ret3
      exact en_ret HR.out (HOW.out.mono (Nat.le_of_lt HL1.out)) (HB.out _ HBE.out)
end Go.Proofs.YtppabkllconkjaaGreatDoor.Snf
/- The contracts of the document's own Decode and Encode of layer 8. -/
namespace Go.Proofs.YtppabkllconkjaaGreatDoor.Snf
open Go.RowKit
set_option linter.unusedVariables false
set_option linter.unusedSimpArgs false
set_option maxRecDepth 100000
set_option maxRecDepth 100000
open Lab (str str_size str_list str_eta str_inj u8v info5 info_parts)
theorem de_ret {x : Int} {b t : List UInt8} {n : Int} {T : ByteArray} {w w' : World} (h : decF x b = (t, n)) (hT : T = str t) (hb : Below w.heap.size w w') : Ending.returned (.tuple #[.string T, .int .i64 n]) = .returned (.tuple #[.string (str (decF x b).1), .int .i64 (decF x b).2]) ∧ Below w.heap.size w w' := by
  rw [h, hT]; exact ⟨rfl, hb⟩
theorem ec_ret {x : Int} {b t : List UInt8} {n : Bool} {T : ByteArray} {w w' : World} (h : encdF x b = (t, n)) (hT : T = str t) (hb : Below w.heap.size w w') : Ending.returned (.tuple #[.string T, .bool n]) = .returned (.tuple #[.string (str (encdF x b).1), .bool (encdF x b).2]) ∧ Below w.heap.size w w' := by
  rw [h, hT]; exact ⟨rfl, hb⟩
theorem rsingle_form (x : Int) (b : List UInt8) (h : U.isE x = true) : Value.string (U.decT x (str b)) = .string (str (U.encs (b.map fun c => U.scE x c.toNat))) := by
  unfold U.decT
  rw [if_pos h]
  rfl
set_option maxHeartbeats 4000000 in
theorem rdecode_any (x : Int) (hwf : (Lit.int .i8 x).wf = true) (b : List UInt8) (w : World) (hs : b.length ≤ 5000) : Calls Tryz.prog 16 #[.int .i8 x, .string (str b)] w fun e w' => DeR x b w e w' := by
  unfold DeR
  by_cases h0 : x = 0
  · subst h0
    have HC : Hid (Calls Tryz.prog 34 #[.string (str b)] w fun e w' => e = .returned (.tuple #[.string (str (decF 0 b).1), .int .i64 (decF 0 b).2]) ∧ Below w.heap.size w w') := Lib.hid (by
      have := U.rloose_any (str b) w (by rw [str_size]; omega)
      unfold U.LooseS at this
      rw [str_list] at this
      exact this)
    obtain ⟨D, hD⟩ : ∃ D, decF 0 b = D := ⟨_, rfl⟩
    rw [hD] at HC ⊢
    obtain ⟨T, hT⟩ : ∃ T, str D.1 = T := ⟨_, rfl⟩
    rw [hT] at HC ⊢
    obtain ⟨s, hs'⟩ : ∃ s, str b = s := ⟨_, rfl⟩
    rw [hs'] at HC ⊢
    clear hT hs' hs hD
    go_enter Tryz.func16, Tryz.ntmps16
    go_wp2_with (go_at_call 34; refine HC.out.mono ?_; rintro _ w1 ⟨rfl, hb1⟩; clear HC)
    go_ret2
    exact ⟨rfl, hb1⟩
  by_cases h1 : x = 1
  · subst h1
    have HC : Hid (Calls Tryz.prog 35 #[.string (str b), .bool false] w fun e w' => ∃ v, e = .returned (.tuple #[.string (str (U.t16 false b)), v]) ∧ U.Ints w' v (U.b16 false b) ∧ Below w.heap.size w w') := Lib.hid (by
      have := (U.rdecode_any (str b) false w (by rw [str_size]; omega)).mono fun e w' h => (by
        obtain ⟨v, h1, h2, h3⟩ := h
        exact ⟨v, h1, U.ints_of_own h2, h3⟩ : ∃ v, e = .returned (.tuple #[.string (U.str (U.t16 false (str b).data.toList)), v]) ∧ U.Ints w' v (U.b16 false (str b).data.toList) ∧ Below w.heap.size w w')
      rw [str_list] at this
      exact this)
    have HD : Hid (decF 1 b = (U.t16 false b, (U.b16 false b).headD (-1))) := Lib.hid rfl
    obtain ⟨T, hT⟩ : ∃ T, str (U.t16 false b) = T := ⟨_, rfl⟩
    have HT := Lib.hid hT
    rw [hT] at HC
    obtain ⟨s, hs'⟩ : ∃ s, str b = s := ⟨_, rfl⟩
    rw [hs'] at HC ⊢
    clear hT hs' hs
    cases hb : U.b16 false b with
    | nil =>
      rw [hb] at HC HD
      clear hb
      go_enter Tryz.func16, Tryz.ntmps16
      go_wp2_with (go_at_call 35; refine HC.out.mono ?_; rintro _ w1 ⟨v, rfl, hv, hb1⟩; clear HC; obtain ⟨_, p1, cap1, rfl⟩ | ⟨b1, o1, cap1, rfl, _, _⟩ := hv)
      all_goals
        go_ret2
        exact de_ret HD.out (by rw [HT.out]) hb1
    | cons y t =>
      rw [hb] at HC HD
      clear hb
      obtain ⟨N, hN⟩ : ∃ N, (y :: t).length = N := ⟨_, rfl⟩
      have hN1 : 0 < N := by rw [← hN]; simp
      have HC2 : Hid (Calls Tryz.prog 35 #[.string s, .bool false] w fun e w' => ∃ b1 o1 cap1, e = .returned (.tuple #[.string T, .slice (some ⟨b1, o1, none⟩) N cap1]) ∧ w'.cell? ⟨b1, o1, none⟩ = some (.int .i64 y) ∧ Below w.heap.size w w') := Lib.hid (HC.out.mono fun e w' h => by
        obtain ⟨v, h1, h2, h3⟩ := h
        rcases h2 with ⟨h2, _⟩ | ⟨b1, o1, cap1, h2, _, h4⟩
        · simp at h2
        · refine ⟨b1, o1, cap1, by rw [h1, h2, hN], ?_, h3⟩
          have := h4 0 (by simp)
          simpa using this)
      have d1 : decide ((0 : Int) < (N : Int)) = true := by simp; omega
      have d2 : (0 : Int) < (N : Int) := by omega
      clear HC hN
      go_enter Tryz.func16, Tryz.ntmps16
      go_wp2_with (go_at_call 35; refine HC2.out.mono ?_; rintro _ w1 ⟨b1, o1, cap1, rfl, hc1, hb1⟩; clear HC2)
      go_quiet (fail)
      go_wp2_with fail
      try rw [Exit.noGoto_ret]
      go_ret2
      exact de_ret HD.out (by rw [HT.out]) (below_draws hb1 _)
  by_cases h2 : x = 2
  · subst h2
    have HC : Hid (Calls Tryz.prog 35 #[.string (str b), .bool true] w fun e w' => ∃ v, e = .returned (.tuple #[.string (str (U.t16 true b)), v]) ∧ U.Ints w' v (U.b16 true b) ∧ Below w.heap.size w w') := Lib.hid (by
      have := (U.rdecode_any (str b) true w (by rw [str_size]; omega)).mono fun e w' h => (by
        obtain ⟨v, h1, h2, h3⟩ := h
        exact ⟨v, h1, U.ints_of_own h2, h3⟩ : ∃ v, e = .returned (.tuple #[.string (U.str (U.t16 true (str b).data.toList)), v]) ∧ U.Ints w' v (U.b16 true (str b).data.toList) ∧ Below w.heap.size w w')
      rw [str_list] at this
      exact this)
    have HD : Hid (decF 2 b = (U.t16 true b, (U.b16 true b).headD (-1))) := Lib.hid rfl
    obtain ⟨T, hT⟩ : ∃ T, str (U.t16 true b) = T := ⟨_, rfl⟩
    have HT := Lib.hid hT
    rw [hT] at HC
    obtain ⟨s, hs'⟩ : ∃ s, str b = s := ⟨_, rfl⟩
    rw [hs'] at HC ⊢
    clear hT hs' hs
    cases hb : U.b16 true b with
    | nil =>
      rw [hb] at HC HD
      clear hb
      go_enter Tryz.func16, Tryz.ntmps16
      go_wp2_with (go_at_call 35; refine HC.out.mono ?_; rintro _ w1 ⟨v, rfl, hv, hb1⟩; clear HC; obtain ⟨_, p1, cap1, rfl⟩ | ⟨b1, o1, cap1, rfl, _, _⟩ := hv)
      all_goals
        go_ret2
        exact de_ret HD.out (by rw [HT.out]) hb1
    | cons y t =>
      rw [hb] at HC HD
      clear hb
      obtain ⟨N, hN⟩ : ∃ N, (y :: t).length = N := ⟨_, rfl⟩
      have hN1 : 0 < N := by rw [← hN]; simp
      have HC2 : Hid (Calls Tryz.prog 35 #[.string s, .bool true] w fun e w' => ∃ b1 o1 cap1, e = .returned (.tuple #[.string T, .slice (some ⟨b1, o1, none⟩) N cap1]) ∧ w'.cell? ⟨b1, o1, none⟩ = some (.int .i64 y) ∧ Below w.heap.size w w') := Lib.hid (HC.out.mono fun e w' h => by
        obtain ⟨v, h1, h2, h3⟩ := h
        rcases h2 with ⟨h2, _⟩ | ⟨b1, o1, cap1, h2, _, h4⟩
        · simp at h2
        · refine ⟨b1, o1, cap1, by rw [h1, h2, hN], ?_, h3⟩
          have := h4 0 (by simp)
          simpa using this)
      have d1 : decide ((0 : Int) < (N : Int)) = true := by simp; omega
      have d2 : (0 : Int) < (N : Int) := by omega
      clear HC hN
      go_enter Tryz.func16, Tryz.ntmps16
      go_wp2_with (go_at_call 35; refine HC2.out.mono ?_; rintro _ w1 ⟨b1, o1, cap1, rfl, hc1, hb1⟩; clear HC2)
      go_quiet (fail)
      go_wp2_with fail
      try rw [Exit.noGoto_ret]
      go_ret2
      exact de_ret HD.out (by rw [HT.out]) (below_draws hb1 _)
  have d0 : (x == 0) = false := by simpa using h0
  have d1 : (x == 1) = false := by simpa using h1
  have d2 : (x == 2) = false := by simpa using h2
  have HC0 := U.rdecode1_any x (str b) w (by rw [str_size]; omega)
  unfold U.DecS at HC0
  by_cases hE : U.isE x = true
  · have HC : Hid (Calls Tryz.prog 36 #[.int .i8 x, .string (str b)] w fun e w' => e = .returned (.tuple #[.string (str (U.encs (b.map fun c => U.scE x c.toNat))), .int .i64 0]) ∧ Below w.heap.size w w') := Lib.hid (by
      rw [rsingle_form x b hE, show U.decC x = 0 by unfold U.decC; rw [if_pos hE]] at HC0
      exact HC0)
    have HD : Hid (decF x b = (U.encs (b.map fun c => U.scE x c.toNat), -1)) := Lib.hid (by unfold decF; rw [if_neg h0, if_neg (fun h => h.elim h1 h2), if_pos hE])
    obtain ⟨T, hT⟩ : ∃ T, str (U.encs (b.map fun c => U.scE x c.toNat)) = T := ⟨_, rfl⟩
    have HT := Lib.hid hT
    rw [hT] at HC
    obtain ⟨s, hs'⟩ : ∃ s, str b = s := ⟨_, rfl⟩
    rw [hs'] at HC ⊢
    clear hT hs' hs HC0 h0 h1 h2 hE hwf
    go_enter Tryz.func16, Tryz.ntmps16
    go_wp2_with (go_at_call 36; refine HC.out.mono ?_; rintro _ w1 ⟨rfl, hb1⟩; clear HC)
    go_ret2
    exact de_ret HD.out (by rw [HT.out]) hb1
  · have HC : Hid (Calls Tryz.prog 36 #[.int .i8 x, .string (str b)] w fun e w' => e = .returned (.tuple #[.string ⟨#[]⟩, .int .i64 2]) ∧ Below w.heap.size w w') := Lib.hid (by
      rw [show U.decT x (str b) = ⟨#[]⟩ by unfold U.decT; rw [if_neg hE], show U.decC x = 2 by unfold U.decC; rw [if_neg hE]] at HC0
      exact HC0)
    have HD : Hid (decF x b = ([], if b = [] then -1 else 0)) := Lib.hid (by unfold decF; rw [if_neg h0, if_neg (fun h => h.elim h1 h2), if_neg hE])
    have hsz := str_size b
    obtain ⟨s, hs'⟩ : ∃ s, str b = s := ⟨_, rfl⟩
    rw [hs'] at HC hsz ⊢
    clear hs' hs HC0 h0 h1 h2 hE hwf
    by_cases hb : b = []
    · have dz : decide ((0 : Int) < (s.size : Int)) = false := by rw [hsz, hb]; rfl
      have dzn : decide (0 < s.size) = false := by rw [hsz, hb]; rfl
      have hns : ¬ 0 < s.size := by rw [hsz, hb]; simp
      have HD2 : Hid (decF x b = ([], -1)) := Lib.hid (by rw [HD.out, if_pos hb])
      clear hb HD hsz
      go_enter Tryz.func16, Tryz.ntmps16
      go_wp2_with (go_at_call 36; refine HC.out.mono ?_; rintro _ w1 ⟨rfl, hb1⟩; clear HC)
      go_ret2
      exact de_ret HD2.out rfl hb1
    · have dz : decide ((0 : Int) < (s.size : Int)) = true := by
        have : 0 < b.length := List.length_pos_iff.2 hb
        rw [hsz]; simp; omega
      have dzn : decide (0 < s.size) = true := by
        have : 0 < b.length := List.length_pos_iff.2 hb
        rw [hsz]; simp; omega
      have HD2 : Hid (decF x b = ([], 0)) := Lib.hid (by rw [HD.out, if_neg hb])
      clear hb HD hsz
      go_enter Tryz.func16, Tryz.ntmps16
      go_wp2_with (go_at_call 36; refine HC.out.mono ?_; rintro _ w1 ⟨rfl, hb1⟩; clear HC)
      go_ret2
      exact de_ret HD2.out rfl hb1
set_option maxHeartbeats 4000000 in
theorem rencode_any (x : Int) (hwf : (Lit.int .i8 x).wf = true) (b : List UInt8) (w : World) (hs : b.length ≤ 5000) : Calls Tryz.prog 18 #[.int .i8 x, .string (str b)] w fun e w' => EcR x b w e w' := by
  unfold EcR
  by_cases h0 : x = 0
  · subst h0
    have HC : Hid (Calls Tryz.prog 19 #[.string (str b)] w fun e w' => e = .returned (.bool (U.okB b)) ∧ Below w.heap.size w w') := Lib.hid (by
      have := U.rvalid_any (str b) w (by rw [str_size]; omega)
      rw [str_list] at this
      exact this)
    have HD : Hid (encdF 0 b = if U.okB b = true then (b, true) else ([], false)) := Lib.hid rfl
    obtain ⟨k, hk⟩ : ∃ k, U.okB b = k := ⟨_, rfl⟩
    rw [hk] at HC HD
    obtain ⟨s, hs'⟩ : ∃ s, str b = s := ⟨_, rfl⟩
    have HT := Lib.hid hs'
    rw [hs'] at HC ⊢
    clear hk hs' hs
    cases k with
    | true =>
      go_enter Tryz.func18, Tryz.ntmps18
      go_wp2_with (go_at_call 19; refine HC.out.mono ?_; rintro _ w1 ⟨rfl, hb1⟩; clear HC)
      go_ret2
      exact ec_ret HD.out (by rw [HT.out]) hb1
    | false =>
      go_enter Tryz.func18, Tryz.ntmps18
      go_wp2_with (go_at_call 19; refine HC.out.mono ?_; rintro _ w1 ⟨rfl, hb1⟩; clear HC)
      go_ret2
      exact ec_ret HD.out rfl hb1
  by_cases h1 : x = 1
  · subst h1
    have HC0 := U.renc_any (str b) false w (by rw [str_size]; omega)
    unfold U.Enc16S at HC0
    rw [str_list] at HC0
    obtain ⟨k, hk⟩ : ∃ k, U.okB b = k := ⟨_, rfl⟩
    have HD : Hid (encdF 1 b = (if k = true then U.es16 false (U.scl b) else [], k)) := Lib.hid (by rw [← hk]; rfl)
    rw [hk] at HC0
    obtain ⟨R, hR⟩ : ∃ R, (if k = true then U.es16 false (U.scl b) else []) = R := ⟨_, rfl⟩
    rw [hR] at HC0 HD
    have HC : Hid (Calls Tryz.prog 37 #[.string (str b), .bool false] w fun e w' => e = .returned (.tuple #[.string (str R), .int .i64 (if k = true then 0 else 70)]) ∧ Below w.heap.size w w') := Lib.hid HC0
    obtain ⟨T, hT⟩ : ∃ T, str R = T := ⟨_, rfl⟩
    have HT := Lib.hid hT
    rw [hT] at HC
    obtain ⟨s, hs'⟩ : ∃ s, str b = s := ⟨_, rfl⟩
    rw [hs'] at HC ⊢
    clear hT hs' hs HC0 hk hR
    cases k with
    | true =>
      go_enter Tryz.func18, Tryz.ntmps18
      go_wp2_with (go_at_call 37; refine HC.out.mono ?_; rintro _ w1 ⟨rfl, hb1⟩; clear HC)
      go_ret2
      exact ec_ret HD.out (by rw [HT.out]) hb1
    | false =>
      go_enter Tryz.func18, Tryz.ntmps18
      go_wp2_with (go_at_call 37; refine HC.out.mono ?_; rintro _ w1 ⟨rfl, hb1⟩; clear HC)
      go_ret2
      exact ec_ret HD.out (by rw [HT.out]) hb1
  by_cases h2 : x = 2
  · subst h2
    have HC0 := U.renc_any (str b) true w (by rw [str_size]; omega)
    unfold U.Enc16S at HC0
    rw [str_list] at HC0
    obtain ⟨k, hk⟩ : ∃ k, U.okB b = k := ⟨_, rfl⟩
    have HD : Hid (encdF 2 b = (if k = true then U.es16 true (U.scl b) else [], k)) := Lib.hid (by rw [← hk]; rfl)
    rw [hk] at HC0
    obtain ⟨R, hR⟩ : ∃ R, (if k = true then U.es16 true (U.scl b) else []) = R := ⟨_, rfl⟩
    rw [hR] at HC0 HD
    have HC : Hid (Calls Tryz.prog 37 #[.string (str b), .bool true] w fun e w' => e = .returned (.tuple #[.string (str R), .int .i64 (if k = true then 0 else 70)]) ∧ Below w.heap.size w w') := Lib.hid HC0
    obtain ⟨T, hT⟩ : ∃ T, str R = T := ⟨_, rfl⟩
    have HT := Lib.hid hT
    rw [hT] at HC
    obtain ⟨s, hs'⟩ : ∃ s, str b = s := ⟨_, rfl⟩
    rw [hs'] at HC ⊢
    clear hT hs' hs HC0 hk hR
    cases k with
    | true =>
      go_enter Tryz.func18, Tryz.ntmps18
      go_wp2_with (go_at_call 37; refine HC.out.mono ?_; rintro _ w1 ⟨rfl, hb1⟩; clear HC)
      go_ret2
      exact ec_ret HD.out (by rw [HT.out]) hb1
    | false =>
      go_enter Tryz.func18, Tryz.ntmps18
      go_wp2_with (go_at_call 37; refine HC.out.mono ?_; rintro _ w1 ⟨rfl, hb1⟩; clear HC)
      go_ret2
      exact ec_ret HD.out (by rw [HT.out]) hb1
  have d0 : (x == 0) = false := by simpa using h0
  have d1 : (x == 1) = false := by simpa using h1
  have d2 : (x == 2) = false := by simpa using h2
  have HC0 := U.rencode_any x (str b) w (by rw [str_size]; omega)
  unfold U.EncS at HC0
  obtain ⟨R, A, Z, hR⟩ : ∃ R A Z, U.encR x (str b) = (R, A, Z) := ⟨_, _, _, rfl⟩
  have HD : Hid (encdF x b = (R, decide (Z = 0))) := Lib.hid (by unfold encdF; rw [if_neg h0, if_neg (fun h => h.elim h1 h2), hR])
  rw [hR] at HC0
  have HC : Hid (Calls Tryz.prog 38 #[.int .i8 x, .string (str b)] w fun e w' => e = .returned (.tuple #[.string (str R), .int .i64 A, .int .i64 Z]) ∧ Below w.heap.size w w') := Lib.hid HC0
  obtain ⟨T, hT⟩ : ∃ T, str R = T := ⟨_, rfl⟩
  have HT := Lib.hid hT
  rw [hT] at HC
  obtain ⟨s, hs'⟩ : ∃ s, str b = s := ⟨_, rfl⟩
  rw [hs'] at HC ⊢
  clear hT hs' hs HC0 h0 h1 h2 hR hwf
  by_cases hz : Z = 0
  · have dz : (Z == 0) = true := by rw [hz]; rfl
    have HD2 : Hid (encdF x b = (R, true)) := Lib.hid (by rw [HD.out, hz]; rfl)
    clear hz HD
    go_enter Tryz.func18, Tryz.ntmps18
    go_wp2_with (go_at_call 38; refine HC.out.mono ?_; rintro _ w1 ⟨rfl, hb1⟩; clear HC)
    go_ret2
    exact ec_ret HD2.out (by rw [HT.out]) hb1
  · have dz : (Z == 0) = false := by simpa using hz
    have HD2 : Hid (encdF x b = (R, false)) := Lib.hid (by rw [HD.out]; simp [hz])
    clear hz HD
    go_enter Tryz.func18, Tryz.ntmps18
    go_wp2_with (go_at_call 38; refine HC.out.mono ?_; rintro _ w1 ⟨rfl, hb1⟩; clear HC)
    go_ret2
    exact ec_ret HD2.out (by rw [HT.out]) hb1
end Go.Proofs.YtppabkllconkjaaGreatDoor.Snf
/- The opening and the end of the rows of layer 8. -/
namespace Go.Proofs.YtppabkllconkjaaGreatDoor
open Go.RowKit
set_option linter.unusedVariables false
set_option linter.unusedSimpArgs false
set_option maxRecDepth 100000
set_option maxRecDepth 100000
open Go.ChangeShapes Go.WideShapes Go.ChangeAt
/-- The wrap of a row with listed variables: what they read as, the world's shape, the weights. -/
theorem returnsIn_all {H : Type} {enc : TypeId × Value → H} {C : Checked} {os : Os} {f : FuncId} {fn : Func} {s : ChangeSpec} {L : List (String × DataW Unit)}
    (own : ownKnob C.prog.godebug = none) (started : os.Started) (noInit : C.prog.inits.idxOf? f = none) (hfn : C.prog.funcs[f]? = some fn)
    (witness : ∃ (w : World) (tape : Tape) (i : Input), w.os = os ∧ (w.forCall tape i).Shaped C.prog ∧ i.vars = [] ∧ Input.okWide C.prog (w.forCall tape i) .any w.heap.size f i ∧
      ((s.pre enc C.prog fn [] false (w.forCall tape i).memory i.args ∧ laidMetH C.prog L (w.forCall tape i).memory) ∧ sizedMet enc C.prog fn (OpenSpec.ofChange s) false (w.forCall tape i).memory i.args) ∧ ({} : Assume).holds C.prog (lone (Frame.enter C.prog f i.args .normal) [] (w.forCall tape i)))
    (contract : ∀ (W : World) (base : Nat) (args : Array Value) (ds gs : List (DataW H)) (before : List MemPlace),
      (∀ (j : Nat) t v, fn.params[j]? = some t → args[j]? = some v → Value.okWide C.prog W .any base t v) →
      DataW.Whole enc C.prog fn.params.toList s.vars false W args.toList ds gs before →
      W.ShapedOpen C.prog → laidMetH C.prog L W →
      (DataW.weightsEach C.prog (fn.params.toList ++ s.plain.varTypes C.prog) (ds ++ gs)).all (· ≤ reachBytes) = true →
      Calls C.prog f args W fun e W' => ∃ v, e = .returned v ∧ s.post enc C.prog fn false true false false W args v W') :
    ReturnsInHanded {} C os f .any (fun w args => (s.pre enc C.prog fn [] false w args ∧ laidMetH C.prog L w) ∧ sizedMet enc C.prog fn (OpenSpec.ofChange s) false w args) (s.post enc C.prog fn false true false false) :=
  returnsInHanded_of_calls own started noInit witness fun w tape i _ hshape _ hin hpre _ => by
    obtain ⟨_, _, _, g, hg, _, _, _, _, hval⟩ := hin
    cases hg.symm.trans hfn
    obtain ⟨⟨⟨ds, gs, before, hwhole, _⟩, hL⟩, hz⟩ := hpre
    refine (contract _ w.heap.size i.args ds gs before hval (DataW.Whole.of_heap (w := (w.forCall tape i).memory) (w' := w.forCall tape i) (by rfl) hwhole) hshape (hL.of_heap (by rfl)) (hz.weights hwhole)).mono fun e W' hp => ?_
    obtain ⟨v, rfl, hpost⟩ := hp
    exact ChangeSpec.post_blind hpost
theorem own : ownKnob Tryz.prog.godebug = none := by kernel_rfl
theorem laid : laidOutB Tryz.prog = true := by kernel_rfl
section
variable {H : Type} {enc : TypeId × Value → H}
theorem args_keep {W W' : World} (hb : Below W.heap.size W W') : ∀ {ts : List TypeId} {vs : List Value} {ds : List (DataW H)} {ps : List MemPlace}, (∀ t ∈ ts, Tryz.prog.readableRec t = true ∧ t < Tryz.prog.types.size) →
    DataW.TrodAll enc Tryz.prog W 0 (fun _ => true) true ts vs ds ps → (∀ x ∈ ps, x.block < W.heap.size) → ∀ sp : Nat → Bool, (∀ x ∈ ps, sp x.block = true) → DataW.TrodAll enc Tryz.prog W' 0 sp true ts vs ds ps
  | [], vs, ds, ps, _, h, _, _, _ => by
    match vs, ds, h with
    | [], [], h => exact h
  | t :: ts, vs, ds, ps, hr, h, hlt, sp, hsp => by
    match vs, ds, h with
    | v :: vs, d :: ds, h =>
      obtain ⟨p, p', hd, hs, rfl⟩ := h
      refine ⟨p, p', ?_, ?_, rfl⟩
      · exact WideElems.Trod_stays laid (hr t List.mem_cons_self).1 (hr t List.mem_cons_self).2 hd (fun x hx => hb.same (hlt x (List.mem_append_left _ hx))) (fun x hx => hsp x (List.mem_append_left _ hx))
      · exact args_keep hb (fun u hu => hr u (List.mem_cons_of_mem _ hu)) hs (fun x hx => hlt x (List.mem_append_right _ hx)) sp (fun x hx => hsp x (List.mem_append_right _ hx))
theorem law_post {fn : Func} {s : ChangeSpec} (hv0 : s.vars = []) (hrt : fn.resultTypes = #[4]) (hread : ∀ t ∈ fn.params.toList, Tryz.prog.readableRec t = true ∧ t < Tryz.prog.types.size)
    {W W' : World} {args : Array Value} {ds gs : List (DataW H)} {before : List MemPlace} (hW : DataW.Whole enc Tryz.prog fn.params.toList s.vars false W args.toList ds gs before)
    (hfn : s.fn H (ds ++ gs) = { results := [.lit (.bool true)], args := ds }) (hb : Below W.heap.size W W') :
    s.post enc Tryz.prog fn false true false false W args (.bool true) W' := by
  have hlt : ∀ p ∈ before, p.block < W.heap.size := fun p hp => hW.lt p hp
  have hold : ∀ p ∈ before, (fun b => decide (b < W.heap.size)) p.block = true := fun p hp => by simpa using hlt p hp
  obtain ⟨p, q, hA, hV, hpq, hz, hn⟩ := hW
  rw [hv0] at hV
  obtain ⟨rfl, rfl⟩ := trodVars_none hV
  have hW' : DataW.Whole enc Tryz.prog fn.params.toList s.vars false W args.toList ds [] before := ⟨p, [], hA, by rw [hv0]; rfl, hpq, hz, hn⟩
  obtain rfl : before = p := by simpa using hpq
  have hargs : ∀ sp : Nat → Bool, (∀ p ∈ before, sp p.block = true) → DataW.TrodAll enc Tryz.prog W' 0 sp true fn.params.toList args.toList ds before := fun sp hsp => args_keep hb hread hA hlt sp hsp
  refine ⟨ds, [], before, [], before, [], hW', ?_, by rw [hfn]; exact hargs _ hold, by rw [hfn, hv0]; rfl, World.keptBut_mono (fun p hp => ⟨hp, Or.inr (Or.inl hp)⟩) (hb.frame (· ∈ before)), fun _ => ?_⟩
  · rw [hfn, hrt]
    exact trodAll_cons_mk (shut_bool Tryz.underlying4 _) trodAll_mk0
  · refine ⟨ok_one hrt rfl (okWide_bool_mk Tryz.underlying4 _), _, [], ([] ++ before) ++ [], ⟨[] ++ before, [], trodAll_append (hargs _ (fun _ _ => rfl)) (by rw [hrt]; exact trodAll_cons_mk (shut_bool Tryz.underlying4 _) trodAll_mk0), by rw [hv0]; rfl, rfl, ?_, by simp⟩, ?_⟩
    · intro b off hp
      have hin : MemPlace.cell b off ∈ before := by simpa using hp
      rw [hb.frozen (hlt _ hin)]
      exact hz b off hin
    · intro p hp _
      simpa using hp
end
section
variable {H : Type} {enc : TypeId × Value → H} {w : World} {base : Nat} {held : Bool}
theorem open_str {v : Value} {d : DataW H} {p : List MemPlace} {r : Reach} {b : Nat} (hv : Value.okWide Tryz.prog w r b 9 v) (h : DataW.Trod enc Tryz.prog w base (fun _ => true) held 9 v d p) :
    ∃ s : ByteArray, v = .string s ∧ d = .lit (.string s.data.toList) ∧ s.size ≤ maxLen := by
  obtain ⟨s, e1, e2, _, e3⟩ := Go.ChangeMaps.open_string Tryz.underlying9 hv h
  exact ⟨s, e1, e2, e3⟩
end
theorem mx_of_shape {W : World} (h : W.ShapedOpen Tryz.prog) : Dec.Mx W := Tryz.maxLen_some W h
theorem var_lt {P : Program} {w : World} {n : String} {g : Nat} {cs : Array Value} (hg : P.globalNamed n = some g) (h : w.var? P n = some cs) : g < w.heap.size := by
  unfold World.var? at h
  rw [hg] at h
  simp only [Option.bind_some] at h
  split at h
  · rename_i h2
    exact (Array.getElem?_eq_some_iff.1 h2).1
  · cases h
theorem gLists : Tryz.prog.globalNamed "carding/label.lists" = some 3 := by kernel_rfl
theorem gLim : Tryz.prog.globalNamed "carding/utf8.limits" = some 5 := by kernel_rfl
theorem gMrk : Tryz.prog.globalNamed "carding/utf8.marks" = some 0 := by kernel_rfl
theorem gLen : Tryz.prog.globalNamed "carding/utf8.lengths" = some 4 := by kernel_rfl
theorem gAcc : Tryz.prog.globalNamed "unicode/utf8.acceptRanges" = some 2 := by kernel_rfl
theorem tLists : (Tryz.prog.globals[3]?).map (·.type) = some 192 := by kernel_rfl
theorem tLim : (Tryz.prog.globals[5]?).map (·.type) = some 196 := by kernel_rfl
theorem tMrk : (Tryz.prog.globals[0]?).map (·.type) = some 173 := by kernel_rfl
theorem tLen : (Tryz.prog.globals[4]?).map (·.type) = some 194 := by kernel_rfl
theorem cellsL6 : Tryz.prog.cellsOf 192 = 6 := by kernel_rfl
theorem cellsSt : Tryz.prog.cellsOf 38 = 1 := by kernel_rfl
theorem cellsLim : Tryz.prog.cellsOf 196 = 5 := by kernel_rfl
theorem cellsMrk : Tryz.prog.cellsOf 173 = 5 := by kernel_rfl
theorem cellsLen : Tryz.prog.cellsOf 194 = 16 := by kernel_rfl
theorem cells3 : Tryz.prog.cellsOf 3 = 1 := by kernel_rfl
theorem cells5 : Tryz.prog.cellsOf 5 = 1 := by kernel_rfl
theorem cells9 : Tryz.prog.cellsOf 9 = 1 := by kernel_rfl
theorem spot_none {w : World} {a : Addr} {v : Value} (h : w.cell? a = some v) : a = ⟨a.block, a.off, none⟩ := by
  unfold World.cell? at h
  split at h
  · split at h
    · cases h
    · rename_i hs
      obtain ⟨b, o, s⟩ := a
      cases s with
      | none => rfl
      | some x => simp at hs
  · cases h
theorem strs_map {H : Type} {ss : List ByteArray} {l : List (List UInt8)} (h : strs (H := H) ss = l.map fun x => .lit (.string x)) : ss = l.map Lab.str := by
  have hl : ss.length = l.length := by have := congrArg List.length h; simpa [strs] using this
  apply List.ext_getElem
  · simpa using hl
  · intro i h1 h2
    have h3 : (strs (H := H) ss)[i]? = (l.map fun x => DataW.lit (.string x))[i]? := by rw [h]
    have h4 : i < l.length := by omega
    simp [strs, h1, h4] at h3
    rw [List.getElem_map, ← h3]
    exact (Lab.str_eta _).symm
/-- The rows of a table of texts of which it is known how it reads. -/
theorem rows_of_texts {H : Type} {enc : TypeId × Value → H} {w : World} {base fuel : Nat} {sp : Nat → Bool} {held : Bool} {cs : List Value} {q : List MemPlace} {L : List (List (List UInt8))}
    (h : DataW.trod enc Tryz.prog w base sp held fuel 192 cs = some (.agg (L.map fun l => .slice (l.map fun x => .lit (.string x)) []), q)) (hne : ∀ l ∈ L, l ≠ []) :
    ∀ e (he : e < L.length), ∃ b off cap, cs[e]? = some (.slice (some ⟨b, off, none⟩) L[e].length cap) ∧ ∀ i (hi : i < L[e].length), w.cell? ⟨b, off + i, none⟩ = some (.string (Lab.str L[e][i])) := by
  obtain ⟨xs, m, _, hx, hl, hn, hel⟩ := DataW.trod_array Tryz.underlying192 h
  simp only [Prod.mk.injEq, DataW.agg.injEq] at hx
  have hlen : L.length = 6 := by have := congrArg List.length hx.1; simp at this; omega
  intro e he
  have h1 := hel e (by omega)
  rw [cellsSt, Nat.mul_one] at h1
  have hxs : e < xs.length := by omega
  rw [List.getElem?_eq_getElem hxs] at h1
  have hd : xs[e].1 = .slice (L[e].map fun x => .lit (.string x)) [] := by
    have h2 : (xs.map (·.1))[e]? = (L.map fun l => DataW.slice (H := H) (l.map fun x => .lit (.string x)) [])[e]? := by rw [← hx.1]
    simpa [hxs, he] using h2
  rcases open_strings Tryz.underlying38 Tryz.underlying9 cells9 h1 with ⟨_, h2⟩ | ⟨a, len, cap, ss, hcs, _, hle, hm, hz, h2, hcell, _⟩
  · rw [h2] at hd; cases hd
  · rw [h2] at hd
    simp only [DataW.slice.injEq] at hd
    have hss := strs_map hd.1
    have hsl : len ≤ ss.length := by rw [hz]; split <;> omega
    have hlL : len = L[e].length := by have := congrArg List.length hss; simp at this; omega
    have hat : ∀ i (hi : i < L[e].length), w.cell? (a.add i) = some (.string (Lab.str L[e][i])) := fun i hi => by
      rw [hcell i (by omega)]
      have h3 : (ss.take len)[i]? = (L[e].map Lab.str)[i]? := by rw [hss]
      rw [List.getElem?_take_of_lt (by omega)] at h3
      have hi2 : i < ss.length := by omega
      simp [hi2, hi] at h3
      simp [List.getD, hi2, h3]
    have hpos : 0 < L[e].length := List.length_pos_iff.2 (hne _ (List.getElem_mem he))
    have h0 := hat 0 hpos
    have ha := spot_none (show w.cell? a = _ by simpa [Addr.add] using h0)
    obtain ⟨b, off, sp⟩ := a
    simp only [Addr.mk.injEq, true_and] at ha
    subst ha
    refine ⟨b, off, cap, ?_, fun i hi => ?_⟩
    · have hc2 : (cs.drop e).take 1 = [.slice (some ⟨b, off, none⟩) len cap] := hcs
      have he2 : e < cs.length := by rw [hl, cellsL6]; omega
      rw [List.drop_eq_getElem_cons he2, List.take_succ_cons, List.take_zero] at hc2
      injection hc2 with hc2 _
      rw [List.getElem?_eq_getElem he2, hc2, hlL]
    · have := hat i hi
      have hadd : (⟨b, off, none⟩ : Addr).add i = ⟨b, off + i, none⟩ := by unfold Addr.add; split <;> simp_all
      rwa [hadd] at this
/-- The cells of an array of integers of which it is known how it reads. -/
theorem cells_of_ints {H : Type} {enc : TypeId × Value → H} {w : World} {base fuel : Nat} {sp : Nat → Bool} {held : Bool} {t e : TypeId} {n : Nat} {k : IntKind} {cs : List Value} {ns : List Int} {q : List MemPlace}
    (ht : Tryz.prog.underlying t = some (.array n e)) (he : Tryz.prog.underlying e = some (.int k)) (hc : Tryz.prog.cellsOf e = 1) (hct : Tryz.prog.cellsOf t = n)
    (h : DataW.trod enc Tryz.prog w base sp held fuel t cs = some (.agg (ns.map fun x => .lit (.int k x)), q)) : cs = ns.map (Value.int k) := by
  obtain ⟨xs, m, _, hx, hl, hn, hel⟩ := DataW.trod_array ht h
  simp only [Prod.mk.injEq, DataW.agg.injEq] at hx
  have hlen : ns.length = n := by have := congrArg List.length hx.1; simp at this; omega
  apply List.ext_getElem
  · simp; omega
  · intro i h1 h2
    have hi : i < n := by omega
    have he1 := hel i hi
    rw [hc, Nat.mul_one] at he1
    have hxs : i < xs.length := by omega
    rw [List.getElem?_eq_getElem hxs] at he1
    obtain ⟨a, e1, e2, _⟩ := DataW.trod_int he he1
    have e3 : (cs.drop i).take 1 = [cs[i]] := by
      rw [List.drop_eq_getElem_cons h1]; rfl
    rw [e3] at e1
    have e4 : (xs.map (·.1))[i]? = some (.lit (.int k a)) := by simp [hxs, e2]
    rw [← hx.1] at e4
    have hi2 : i < ns.length := by omega
    simp [hi2] at e4
    simp at e1
    simp [e1, e4]
abbrev laid6 : List (String × DataW Unit) := [("unicode/utf8.acceptRanges", Rows.laid_unicode_utf8_acceptRanges), ("carding/utf8.limits", Rows.laid_carding_utf8_limits), ("carding/utf8.marks", Rows.laid_carding_utf8_marks), ("carding/utf8.lengths", Rows.laid_carding_utf8_lengths), ("carding/label.lists", Rows.laid_carding_label_lists), ("unicode/utf8.first", Rows.laid_unicode_utf8_first)]
def lists6 : List (List (List UInt8)) := [Lab.lst 0, Lab.lst 1, Lab.lst 2, Lab.lst 3, Lab.lst 4, Lab.lst 5]
theorem lists6_at {e : Nat} (he : e < 6) : lists6[e]? = some (Lab.lst e) := by
  rcases (by omega : e = 0 ∨ e = 1 ∨ e = 2 ∨ e = 3 ∨ e = 4 ∨ e = 5) with rfl | rfl | rfl | rfl | rfl | rfl <;> rfl
theorem g8_of_laid {W : World} (h : laidMetH Tryz.prog laid6 W) (hsh : W.ShapedOpen Tryz.prog) : Snf.G8 W := by
  rw [MakeChecks.laidMetH_plain _ _ _ (by kernel_rfl)] at h
  obtain ⟨ps, ⟨ga, ta, csa, fa, pa, qa, hga, hta, hva, hda, ⟨g0, t0, cs0, f0, p0, q0, hg0, ht0, hv0, hd0, ⟨g1, t1, cs1, f1, p1, q1, hg1, ht1, hv1, hd1, ⟨g2, t2, cs2, f2, p2, q2, hg2, ht2, hv2, hd2, ⟨g3, t3, cs3, f3, p3, q3, hg3, ht3, hv3, hd3, _, _⟩, _⟩, _⟩, _⟩, _⟩, _, _⟩ := h
  have hl0 := var_lt hga hva
  have hl1 := var_lt hg0 hv0
  have hl2 := var_lt hg1 hv1
  have hl3 := var_lt hg2 hv2
  have hl4 := var_lt hg3 hv3
  have hl5 := (mx_of_shape hsh).pos
  obtain rfl := Option.some.inj (gAcc.symm.trans hga)
  obtain rfl := Option.some.inj (gLim.symm.trans hg0)
  obtain rfl := Option.some.inj (gMrk.symm.trans hg1)
  obtain rfl := Option.some.inj (gLen.symm.trans hg2)
  obtain rfl := Option.some.inj (gLists.symm.trans hg3)
  have hlt : 6 < W.heap.size := by omega
  obtain rfl := Option.some.inj (tLim.symm.trans ht0)
  obtain rfl := Option.some.inj (tMrk.symm.trans ht1)
  obtain rfl := Option.some.inj (tLen.symm.trans ht2)
  obtain rfl := Option.some.inj (tLists.symm.trans ht3)
  have c0 := cells_of_ints (k := .i64) (ns := [0, 128, 2048, 65536, 1114112]) Tryz.underlying196 Tryz.underlying3 cells3 cellsLim (by exact hd0)
  have c1 := cells_of_ints (k := .u8) (ns := [0, 0, 192, 224, 240]) Tryz.underlying173 Tryz.underlying5 cells5 cellsMrk (by exact hd1)
  have c2 := cells_of_ints (k := .i64) (ns := [1, 1, 1, 1, 1, 1, 1, 1, 1, 1, 1, 1, 2, 2, 3, 4]) Tryz.underlying194 Tryz.underlying3 cells3 cellsLen (by exact hd2)
  have c3 := rows_of_texts (L := lists6) (by exact hd3) (by decide)
  have e0 := World.var?_cell hg0 hv0
  have e1 := World.var?_cell hg1 hv1
  have e2 := World.var?_cell hg2 hv2
  have e3 := World.var?_cell hg3 hv3
  simp only [← Array.getElem?_toList] at e0 e1 e2 e3
  rw [c0] at e0
  rw [c1] at e1
  rw [c2] at e2
  refine ⟨⟨?_, ?_, ?_, ?_⟩, ?_, mx_of_shape hsh⟩
  · exact hlt
  · intro o ho
    rw [e0 o]
    have : o = 0 ∨ o = 1 ∨ o = 2 ∨ o = 3 ∨ o = 4 := by omega
    rcases this with rfl | rfl | rfl | rfl | rfl <;> rfl
  · intro o ho
    rw [e1 o]
    have : o = 0 ∨ o = 1 ∨ o = 2 ∨ o = 3 ∨ o = 4 := by omega
    rcases this with rfl | rfl | rfl | rfl | rfl <;> rfl
  · intro o ho
    rw [e2 o]
    have : o = 0 ∨ o = 1 ∨ o = 2 ∨ o = 3 ∨ o = 4 ∨ o = 5 ∨ o = 6 ∨ o = 7 ∨ o = 8 ∨ o = 9 ∨ o = 10 ∨ o = 11 ∨ o = 12 ∨ o = 13 ∨ o = 14 ∨ o = 15 := by omega
    rcases this with rfl | rfl | rfl | rfl | rfl | rfl | rfl | rfl | rfl | rfl | rfl | rfl | rfl | rfl | rfl | rfl <;> rfl
  · have hrow : ∀ e, e < 6 → ∃ b off cap, W.cell? ⟨3, e, none⟩ = some (.slice (some ⟨b, off, none⟩) (Lab.lst e).length cap) ∧ ∀ i (hi : i < (Lab.lst e).length), W.cell? ⟨b, off + i, none⟩ = some (.string (Lab.str (Lab.lst e)[i])) := by
      intro e he
      have hl : e < lists6.length := he
      obtain ⟨b, off, cap, h1, h2⟩ := c3 e hl
      have h3 : lists6[e] = Lab.lst e := by
        have := lists6_at he
        rw [List.getElem?_eq_getElem hl] at this
        exact Option.some.inj this
      rw [h3] at h1
      refine ⟨b, off, cap, (e3 e).trans h1, fun i hi => ?_⟩
      have := h2 i (by rw [h3]; exact hi)
      simpa only [h3] using this
    refine ⟨hlt, Nat.le_refl _, fun e he => ?_⟩
    obtain ⟨b, off, cap, h1, h2⟩ := hrow e he
    have hl : 0 < (Lab.lst e).length := by
      rcases (by omega : e = 0 ∨ e = 1 ∨ e = 2 ∨ e = 3 ∨ e = 4 ∨ e = 5) with rfl | rfl | rfl | rfl | rfl | rfl <;> decide
    exact ⟨b, off, cap, h1, World.block_lt_of_cell? W ⟨b, off + 0, none⟩ (h2 0 hl), h2⟩
end Go.Proofs.YtppabkllconkjaaGreatDoor
