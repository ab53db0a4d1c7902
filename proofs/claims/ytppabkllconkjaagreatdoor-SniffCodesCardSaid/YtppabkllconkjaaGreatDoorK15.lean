/- Joined: NQ, NKC. -/
import Derived.BigQuiet
import Derived.Deep.AppendLies
import Derived.Deep.DeepCutAuto
import Derived.Deep.LoopGhost
import Derived.Deep.OwnRows
import Derived.Deep.QuietTactic
import Derived.Deep.RegionHeld3
import Derived.Deep.RegionLaw
import Derived.Deep.WholeRow
import Derived.Laws.AppendOwn
import Derived.Laws.BitsLemmas
import Derived.Laws.BytesArg
import Derived.Laws.DeepStrings4
import Derived.Laws.Externs
import Derived.Laws.IdiomStrings
import Derived.Laws.ResultCell
import Derived.Laws.Rows
import Derived.Laws.StructEq
import Derived.Laws.Tables
import Derived.Lib.AppendStr
import Derived.Lib.Bytealg
import Derived.Lib.Hide
import Derived.LoopIn
import Derived.LoopN
import Derived.LoopNIn
import Derived.Maps.AppendAt
import Derived.Maps.Own
import Derived.Maps.OwnSet
import Derived.OpenShut
import Derived.Outline
import Derived.OwnWalk
import Derived.OwnWalkIn
import Derived.ProofKit
import Derived.RangeFuncBound
import Derived.RangeFuncBox
import Derived.RangeFuncCalls
import Derived.RangeFuncLeaves
import Derived.RangeFuncNested
import Derived.RangeFuncWrites
import Derived.Shelf.Abstract
import Derived.Shelf.LaysM
import Derived.Shelf.RegionOpen
import Derived.Shelf.Small.Wraps
import Derived.Shelf.Strings.Cut
import Derived.Shelf.Strings.Shaped
import Derived.Shelf.Strings.SlTrimAscii
import Derived.StillTailTactics
import Derived.TacticsInMore
import Derived.Test.YtppabkllconkjaaGreatDoorProg
import Derived.Test.YtppabkllconkjaaGreatDoorRows
import Derived.WalkKit
import Derived.WalkMore
import Derived.Test.YtppabkllconkjaaGreatDoorK01
import Derived.Test.YtppabkllconkjaaGreatDoorK03
import Derived.Test.YtppabkllconkjaaGreatDoorK05
import Derived.Test.YtppabkllconkjaaGreatDoorK07
import Derived.Test.YtppabkllconkjaaGreatDoorK08
import Derived.Test.YtppabkllconkjaaGreatDoorK09
import Derived.Test.YtppabkllconkjaaGreatDoorK10
import Derived.Test.YtppabkllconkjaaGreatDoorK11
import Derived.Test.YtppabkllconkjaaGreatDoorK13
import Derived.Test.YtppabkllconkjaaGreatDoorK14
/- The mathematics of bodies' encodings: what is asked, in which order; what follows; nothing of the program. -/
namespace Go.Proofs.YtppabkllconkjaaGreatDoor.Snf
open Go.RowKit
set_option linter.unusedVariables false
set_option linter.unusedSimpArgs false
set_option maxRecDepth 100000
set_option maxRecDepth 100000
/-- A reason: its kind, its place. -/
abbrev Rsn := Int × Int
def blk0 (l : List UInt8) : Bool := l.all fun c => c == 32 || c == 9
/-- Nothing but blanks, or a Content-Type of XML. -/
def xmlK (kind : List UInt8) : Bool := blk0 kind || (match Med.parse kind with | some m => Med.xml m.1 | none => false)
/-- The charset that a Content-Type tells. -/
def chK (kind : List UInt8) : List UInt8 × Bool := Med.chs (Med.medOf (Med.parse kind)).2
def rs0 (kind : List UInt8) : List Rsn := if xmlK kind then [] else [(0, 0)]
/-- What is asked behind the charset. -/
def encB (body : List UInt8) (l : List Rsn) : Int × Int × List Rsn :=
  match Dec.shp body with
  | some e => ((e : Int), 0, l)
  | none => match Dec.scn body with
    | none => (0, 0, l)
    | some x => if (Lab.ofL x).2 = true ∧ (Lab.ofL x).1 ≠ 1 ∧ (Lab.ofL x).1 ≠ 2 then ((Lab.ofL x).1, 0, l) else (0, 0, l ++ [(1, 0)])
/-- A body's encoding, its mark, the reasons. -/
def encF (kind body : List UInt8) : Int × Int × List Rsn :=
  match Dec.mrk body with
  | some m => ((m.1 : Int), (m.2 : Int), rs0 kind)
  | none => if (chK kind).2 = true then (if (Lab.ofL (chK kind).1).2 = true then ((Lab.ofL (chK kind).1).1, 0, rs0 kind) else encB body (rs0 kind ++ [(1, 0)])) else encB body (rs0 kind)
/-- The text of bytes, the first wrong one. -/
def decF (e : Int) (b : List UInt8) : List UInt8 × Int :=
  if e = 0 then (U.loose b, U.wrg (U.prt b) 0)
  else if e = 1 ∨ e = 2 then (U.t16 (decide (e = 2)) b, (U.b16 (decide (e = 2)) b).headD (-1))
  else if U.isE e = true then (U.encs (b.map fun c => U.scE e c.toNat), -1) else ([], if b = [] then -1 else 0)
/-- The bytes of a text. -/
def encdF (e : Int) (t : List UInt8) : List UInt8 × Bool :=
  if e = 0 then (if U.okB t = true then (t, true) else ([], false))
  else if e = 1 ∨ e = 2 then (if U.okB t = true then U.es16 (decide (e = 2)) (U.scl t) else [], U.okB t)
  else ((U.encR e (Lab.str t)).1, decide ((U.encR e (Lab.str t)).2.2 = 0))
/-- A body's text. -/
def txtF (kind body : List UInt8) : List UInt8 × Int × List Rsn × Int :=
  if 4096 < body.length then ([], 0, [], 40)
  else ((decF (encF kind body).1 (body.drop (encF kind body).2.1.toNat)).1, (encF kind body).1,
    if 0 ≤ (decF (encF kind body).1 (body.drop (encF kind body).2.1.toNat)).2 then (encF kind body).2.2 ++ [(2, IntKind.i64.wrap ((encF kind body).2.1 + (decF (encF kind body).1 (body.drop (encF kind body).2.1.toNat)).2))] else (encF kind body).2.2, 0)
/-! What follows. -/
/-- The text is right. -/
theorem dec_right (e : Int) (b : List UInt8) : U.okB (decF e b).1 = true := by
  unfold decF
  split
  · exact U.loose_right b
  · split
    · exact (U.t16_ok _ b).1
    · split
      · rename_i h
        refine U.ok_encs ?_
        unfold U.allB
        rw [List.all_eq_true]
        intro x hx
        obtain ⟨c, _, rfl⟩ := List.mem_map.1 hx
        exact U.isB_sc h c.toNat_lt
      · rfl
theorem ofL_bd (x : List UInt8) : 0 ≤ (Lab.ofL x).1 ∧ (Lab.ofL x).1 < 6 := by
  unfold Lab.ofL Lab.ofP
  split
  · rename_i y hy
    exact Lab.first_in y (List.mem_of_find?_eq_some hy)
  · decide
theorem shp_bd {b : List UInt8} {e : Nat} (h : Dec.shp b = some e) : e ≤ 2 := by
  unfold Dec.shp at h
  split at h
  · cases h; decide
  · split at h
    · cases h; decide
    · cases h
theorem encB_few (body : List UInt8) (l : List Rsn) : (encB body l).2.2.length ≤ l.length + 1 := by
  unfold encB
  cases Dec.shp body with
  | some e => simp
  | none =>
    cases Dec.scn body with
    | none => simp
    | some x =>
      dsimp only
      split <;> simp
theorem encF_few {kind : List UInt8} (h1 : xmlK kind = true) (h2 : (chK kind).2 = false) (body : List UInt8) : (encF kind body).2.2.length ≤ 1 := by
  have h0 : rs0 kind = [] := by unfold rs0; rw [if_pos h1]
  unfold encF
  rw [h0, h2]
  cases Dec.mrk body with
  | some m => simp
  | none => simpa using encB_few body []
/-- Whatever a body of a feed without a charset holds: no error, a right text, two reasons at most. -/
theorem txt_right {kind : List UInt8} (h1 : xmlK kind = true) (h2 : (chK kind).2 = false) {body : List UInt8} (hl : body.length ≤ 4096) : (txtF kind body).2.2.2 = 0 ∧ U.okB (txtF kind body).1 = true ∧ (txtF kind body).2.2.1.length ≤ 2 := by
  have h3 := encF_few h1 h2 body
  unfold txtF
  rw [if_neg (by omega)]
  refine ⟨rfl, dec_right _ _, ?_⟩
  dsimp only
  split
  · rw [List.length_append]; simp; omega
  · omega
/-- What was encoded is decoded as it. -/
theorem dec_encd {e : Int} (he : 0 ≤ e ∧ e < 6) {t b : List UInt8} (h : encdF e t = (b, true)) : decF e b = (t, -1) ∧ b.length ≤ 4 * t.length := by
  unfold encdF at h
  unfold decF
  by_cases h0 : e = 0
  · rw [if_pos h0] at h ⊢
    by_cases hk : U.okB t = true
    · rw [if_pos hk] at h
      cases h
      rw [U.loose_ok hk, U.wrg_ok.2 hk]
      exact ⟨rfl, by omega⟩
    · rw [if_neg hk] at h; simp at h
  · rw [if_neg h0] at h ⊢
    by_cases h1 : e = 1 ∨ e = 2
    · rw [if_pos h1] at h ⊢
      have hk : U.okB t = true := (Prod.mk.inj h).2
      rw [if_pos hk] at h
      have hb := (Prod.mk.inj h).1
      subst hb
      obtain ⟨h2, h3, _⟩ := U.t16_of (big := decide (e = 2)) hk
      rw [h2, h3]
      refine ⟨rfl, ?_⟩
      rw [U.es16_len]
      have h4 := (U.ns16_le (U.scl t)).2
      have h5 : (U.scl t).length ≤ t.length := by
        have := U.ok_or_len t true hk
        simpa using this
      omega
    · rw [if_neg h1] at h ⊢
      have hE : U.isE e = true := U.isE_iff.2 (by omega)
      rw [if_pos hE]
      have hz : (U.encR e (Lab.str t)).2.2 = 0 := by simpa using (Prod.mk.inj h).2
      have hb := (Prod.mk.inj h).1
      subst hb
      obtain ⟨h2, h3⟩ := U.single_back hE hz
      rw [h2, Lab.str_list]
      rw [Lab.str_size] at h3
      exact ⟨rfl, by omega⟩
/-- Text that was encoded, its charset told. -/
theorem txt_told {kind name : List UInt8} {e : Int} (he : 0 ≤ e ∧ e < 6) (h1 : xmlK kind = true) (h2 : chK kind = (name, true)) (h3 : Lab.ofL name = (e, true)) {t b : List UInt8} (ht : t.length ≤ 900) (h : encdF e t = (b, true)) (hm : Dec.mrk b = none) :
    txtF kind b = (t, e, [], 0) := by
  obtain ⟨h4, h5⟩ := dec_encd he h
  have h0 : rs0 kind = [] := by unfold rs0; rw [if_pos h1]
  have hE : encF kind b = (e, 0, []) := by
    unfold encF
    rw [hm, h2, h3, h0]
    rfl
  unfold txtF
  rw [if_neg (by omega), hE]
  dsimp only
  rw [show (0 : Int).toNat = 0 from rfl, List.drop_zero, h4]
  rfl
/-- A mark by its encoding. -/
def mkB (e : Nat) : List UInt8 := if e = 0 then [239, 187, 191] else if e = 1 then [255, 254] else [254, 255]
theorem mrk_of {e : Nat} (he : e < 3) (b : List UInt8) : Dec.mrk (mkB e ++ b) = some (e, (mkB e).length) := by
  have : e = 0 ∨ e = 1 ∨ e = 2 := by omega
  rcases this with rfl | rfl | rfl <;> simp [mkB, Dec.mrk, List.isPrefixOf]
/-- Text that was encoded, its mark ahead, whatever the charset. -/
theorem txt_mark {kind : List UInt8} {e : Nat} (he : e < 3) (h1 : xmlK kind = true) {t b : List UInt8} (ht : t.length ≤ 900) (h : encdF (e : Int) t = (b, true)) : txtF kind (mkB e ++ b) = (t, (e : Int), [], 0) := by
  obtain ⟨h4, h5⟩ := dec_encd (by omega) h
  have h0 : rs0 kind = [] := by unfold rs0; rw [if_pos h1]
  have hE : encF kind (mkB e ++ b) = ((e : Int), ((mkB e).length : Int), []) := by
    unfold encF
    rw [mrk_of he, h0]
  have hl : (mkB e).length ≤ 3 := by unfold mkB; split <;> (try split) <;> simp
  unfold txtF
  rw [if_neg (by rw [List.length_append]; omega), hE]
  dsimp only
  rw [Int.toNat_natCast, List.drop_left, h4]
  rfl
/-- A mark counts alone. -/
theorem enc_mark (kind a : List UInt8) : encF kind (255 :: 254 :: a) = (1, 2, rs0 kind) := by
  unfold encF
  have : Dec.mrk (255 :: 254 :: a) = some (1, 2) := mrk_of (e := 1) (by omega) a
  rw [this]
  rfl
theorem mrk_some {b : List UInt8} {m : Nat × Nat} (h : Dec.mrk b = some m) : m.1 ≤ 2 ∧ 2 ≤ m.2 := by
  unfold Dec.mrk at h
  split at h
  · cases h; decide
  · split at h
    · cases h; decide
    · split at h
      · cases h; decide
      · cases h
/-- A charset that is a label, and no mark: it counts. -/
theorem enc_told {kind name : List UInt8} {e : Int} (h2 : chK kind = (name, true)) (h3 : Lab.ofL name = (e, true)) (b : List UInt8) : ((encF kind b).2.1 = 0 → (encF kind b).1 = e) ∧ ((encF kind b).1 = e ∨ (encF kind b).1 ≤ 2) := by
  unfold encF
  rw [h2, h3]
  cases hm : Dec.mrk b with
  | none => exact ⟨fun _ => rfl, .inl rfl⟩
  | some m =>
    have := mrk_some hm
    dsimp only
    exact ⟨fun h => by omega, .inr (by omega)⟩
theorem encB_head (body : List UInt8) (l : List Rsn) : (encB body l).2.2.head? = (l ++ [(1, 0)]).head? ∨ (encB body l).2.2 = l := by
  unfold encB
  cases Dec.shp body with
  | some e => exact .inr rfl
  | none =>
    cases Dec.scn body with
    | none => exact .inr rfl
    | some x =>
      dsimp only
      split
      · exact .inr rfl
      · exact .inl rfl
/-- BzMedia stands at the front if it is there. -/
theorem enc_media (kind body : List UInt8) : ((encF kind body).2.2.head?.any fun r => r.1 == 0) = !xmlK kind := by
  have h0 : (rs0 kind).head?.any (fun r => r.1 == 0) = !xmlK kind := by
    unfold rs0
    cases xmlK kind <;> rfl
  have h1 : ((rs0 kind ++ [((1 : Int), (0 : Int))]).head?.any fun r => r.1 == 0) = !xmlK kind := by
    unfold rs0
    cases xmlK kind <;> rfl
  have h2 : (((rs0 kind ++ [((1 : Int), (0 : Int))]) ++ [((1 : Int), (0 : Int))]).head?.any fun r => r.1 == 0) = !xmlK kind := by
    unfold rs0
    cases xmlK kind <;> rfl
  unfold encF
  cases Dec.mrk body with
  | some m => exact h0
  | none =>
    dsimp only
    split
    · split
      · exact h0
      · rcases encB_head body (rs0 kind ++ [(1, 0)]) with h | h <;> rw [h]
        · exact h2
        · exact h1
    · rcases encB_head body (rs0 kind) with h | h <;> rw [h]
      · exact h1
      · exact h0
/-! Bounds. -/
theorem encB_enc (body : List UInt8) (l : List Rsn) : (encB body l).2.1 = 0 ∧ 0 ≤ (encB body l).1 ∧ (encB body l).1 < 6 ∧ (encB body l).2.2.length ≤ l.length + 1 := by
  refine ⟨?_, ?_, ?_, encB_few body l⟩ <;> unfold encB
  · cases Dec.shp body with
    | some e => rfl
    | none =>
      cases Dec.scn body with
      | none => rfl
      | some x => dsimp only; split <;> rfl
  · cases hs : Dec.shp body with
    | some e => exact Int.natCast_nonneg e
    | none =>
      cases Dec.scn body with
      | none => exact show (0 : Int) ≤ 0 by decide
      | some x =>
        dsimp only
        split
        · exact (ofL_bd x).1
        · exact show (0 : Int) ≤ 0 by decide
  · cases hs : Dec.shp body with
    | some e =>
      have := shp_bd hs
      dsimp only; omega
    | none =>
      cases Dec.scn body with
      | none => exact show (0 : Int) < 6 by decide
      | some x =>
        dsimp only
        split
        · exact (ofL_bd x).2
        · exact show (0 : Int) < 6 by decide
theorem encF_bd (kind body : List UInt8) : 0 ≤ (encF kind body).2.1 ∧ (encF kind body).2.1 ≤ (body.length : Int) ∧ 0 ≤ (encF kind body).1 ∧ (encF kind body).1 < 6 ∧ (encF kind body).2.2.length ≤ 3 := by
  have h0 : (rs0 kind).length ≤ 1 := by unfold rs0; split <;> simp
  unfold encF
  cases hm : Dec.mrk body with
  | some m =>
    have h1 := Dec.mrk_len (b := body)
    have h2 := mrk_some hm
    unfold Dec.mrkN at h1
    rw [hm] at h1
    have h3 : m.2 ≤ body.length := h1
    dsimp only
    omega
  | none =>
    dsimp only
    split
    · split
      · have := ofL_bd (chK kind).1
        dsimp only
        omega
      · obtain ⟨h1, h2, h3, h4⟩ := encB_enc body (rs0 kind ++ [(1, 0)])
        rw [List.length_append] at h4
        simp only [List.length_cons, List.length_nil] at h4
        omega
    · obtain ⟨h1, h2, h3, h4⟩ := encB_enc body (rs0 kind)
      omega
theorem encF_wf (kind body : List UInt8) : (Lit.int .i8 (encF kind body).1).wf = true := by
  obtain ⟨_, _, h1, h2, _⟩ := encF_bd kind body
  rcases (by omega : (encF kind body).1 = 0 ∨ (encF kind body).1 = 1 ∨ (encF kind body).1 = 2 ∨ (encF kind body).1 = 3 ∨ (encF kind body).1 = 4 ∨ (encF kind body).1 = 5) with h | h | h | h | h | h <;> rw [h] <;> decide
end Go.Proofs.YtppabkllconkjaaGreatDoor.Snf
/- Content-Types of the laws; the contract of wakes. -/
namespace Go.Proofs.YtppabkllconkjaaGreatDoor.Snf
open Go.RowKit
set_option linter.unusedVariables false
set_option linter.unusedSimpArgs false
set_option maxRecDepth 100000
set_option maxRecDepth 100000
open Lab (str str_size str_list str_eta str_inj u8v info5 info_parts)
theorem xmlK_of {k t : List UInt8} {ps : List Med.Par} (h : Med.parse k = some (t, ps)) (hx : Med.xml t = true) : xmlK k = true := by
  unfold xmlK; rw [h]; simp [hx]
theorem chK_of {k t : List UInt8} {ps : List Med.Par} {r : List UInt8 × Bool} (h : Med.parse k = some (t, ps)) (hx : Med.chs ps = r) : chK k = r := by
  unfold chK Med.medOf; rw [h]; exact hx
def kL1 : List UInt8 := [116, 101, 120, 116, 47, 120, 109, 108, 59, 32, 99, 104, 97, 114, 115, 101, 116, 61, 108, 97, 116, 105, 110, 49]
theorem kL1_parse : Med.parse kL1 = some ([116, 101, 120, 116, 47, 120, 109, 108], [(Med.chName, [108, 97, 116, 105, 110, 49])]) := by rw [← Med.run_parse]; decide +kernel
theorem kL1_xml : xmlK kL1 = true := xmlK_of kL1_parse (by decide +kernel)
def kNone : List UInt8 := [116, 101, 120, 116, 47, 120, 109, 108, 59, 32, 99, 104, 97, 114, 115, 101, 116, 61, 110, 111, 110, 101]
theorem kNone_parse : Med.parse kNone = some ([116, 101, 120, 116, 47, 120, 109, 108], [(Med.chName, [110, 111, 110, 101])]) := by rw [← Med.run_parse]; decide +kernel
theorem kNone_xml : xmlK kNone = true := xmlK_of kNone_parse (by decide +kernel)
theorem kNone_chs : chK kNone = ([110, 111, 110, 101], true) := chK_of kNone_parse (by decide +kernel)
def kTx : List UInt8 := [116, 101, 120, 116, 47, 120, 109, 108]
theorem kTx_parse : Med.parse kTx = some ([116, 101, 120, 116, 47, 120, 109, 108], []) := by rw [← Med.run_parse]; decide +kernel
theorem kTx_xml : xmlK kTx = true := xmlK_of kTx_parse (by decide +kernel)
theorem kTx_chs : chK kTx = ([], false) := chK_of kTx_parse (by decide +kernel)
def kL2 : List UInt8 := [116, 101, 120, 116, 47, 120, 109, 108, 59, 99, 104, 97, 114, 115, 101, 116, 61, 108, 97, 116, 105, 110, 49]
theorem kL2_parse : Med.parse kL2 = some ([116, 101, 120, 116, 47, 120, 109, 108], [(Med.chName, [108, 97, 116, 105, 110, 49])]) := by rw [← Med.run_parse]; decide +kernel
theorem kL2_xml : xmlK kL2 = true := xmlK_of kL2_parse (by decide +kernel)
def kCyr : List UInt8 := [116, 101, 120, 116, 47, 120, 109, 108, 59, 99, 104, 97, 114, 115, 101, 116, 61, 99, 121, 114, 105, 108, 108, 105, 99]
theorem kCyr_parse : Med.parse kCyr = some ([116, 101, 120, 116, 47, 120, 109, 108], [(Med.chName, [99, 121, 114, 105, 108, 108, 105, 99])]) := by rw [← Med.run_parse]; decide +kernel
theorem kCyr_chs : chK kCyr = ([99, 121, 114, 105, 108, 108, 105, 99], true) := chK_of kCyr_parse (by decide +kernel)
theorem none_of : Lab.ofL [110, 111, 110, 101] = (0, false) := by decide +kernel
theorem cyr_of : Lab.ofL [99, 121, 114, 105, 108, 108, 105, 99] = (4, true) := by decide +kernel
def nmE (e : Nat) : List UInt8 := if e = 0 then [117, 116, 102, 45, 56] else if e = 1 then [117, 116, 102, 45, 49, 54, 108, 101] else if e = 2 then [117, 116, 102, 45, 49, 54, 98, 101] else if e = 3 then [119, 105, 110, 100, 111, 119, 115, 45, 49, 50, 53, 50] else if e = 4 then [105, 115, 111, 45, 56, 56, 53, 57, 45, 53] else [105, 115, 111, 45, 56, 56, 53, 57, 45, 49, 53]
def kE (e : Nat) : List UInt8 := if e = 0 then [97, 112, 112, 108, 105, 99, 97, 116, 105, 111, 110, 47, 114, 115, 115, 43, 120, 109, 108, 59, 99, 104, 97, 114, 115, 101, 116, 61, 117, 116, 102, 45, 56] else if e = 1 then [97, 112, 112, 108, 105, 99, 97, 116, 105, 111, 110, 47, 114, 115, 115, 43, 120, 109, 108, 59, 99, 104, 97, 114, 115, 101, 116, 61, 117, 116, 102, 45, 49, 54, 108, 101] else if e = 2 then [97, 112, 112, 108, 105, 99, 97, 116, 105, 111, 110, 47, 114, 115, 115, 43, 120, 109, 108, 59, 99, 104, 97, 114, 115, 101, 116, 61, 117, 116, 102, 45, 49, 54, 98, 101] else if e = 3 then [97, 112, 112, 108, 105, 99, 97, 116, 105, 111, 110, 47, 114, 115, 115, 43, 120, 109, 108, 59, 99, 104, 97, 114, 115, 101, 116, 61, 119, 105, 110, 100, 111, 119, 115, 45, 49, 50, 53, 50] else if e = 4 then [97, 112, 112, 108, 105, 99, 97, 116, 105, 111, 110, 47, 114, 115, 115, 43, 120, 109, 108, 59, 99, 104, 97, 114, 115, 101, 116, 61, 105, 115, 111, 45, 56, 56, 53, 57, 45, 53] else [97, 112, 112, 108, 105, 99, 97, 116, 105, 111, 110, 47, 114, 115, 115, 43, 120, 109, 108, 59, 99, 104, 97, 114, 115, 101, 116, 61, 105, 115, 111, 45, 56, 56, 53, 57, 45, 49, 53]
theorem kE_parse0 : Med.parse [97, 112, 112, 108, 105, 99, 97, 116, 105, 111, 110, 47, 114, 115, 115, 43, 120, 109, 108, 59, 99, 104, 97, 114, 115, 101, 116, 61, 117, 116, 102, 45, 56] = some ([97, 112, 112, 108, 105, 99, 97, 116, 105, 111, 110, 47, 114, 115, 115, 43, 120, 109, 108], [(Med.chName, [117, 116, 102, 45, 56])]) := by rw [← Med.run_parse]; decide +kernel
theorem kE_parse1 : Med.parse [97, 112, 112, 108, 105, 99, 97, 116, 105, 111, 110, 47, 114, 115, 115, 43, 120, 109, 108, 59, 99, 104, 97, 114, 115, 101, 116, 61, 117, 116, 102, 45, 49, 54, 108, 101] = some ([97, 112, 112, 108, 105, 99, 97, 116, 105, 111, 110, 47, 114, 115, 115, 43, 120, 109, 108], [(Med.chName, [117, 116, 102, 45, 49, 54, 108, 101])]) := by rw [← Med.run_parse]; decide +kernel
theorem kE_parse2 : Med.parse [97, 112, 112, 108, 105, 99, 97, 116, 105, 111, 110, 47, 114, 115, 115, 43, 120, 109, 108, 59, 99, 104, 97, 114, 115, 101, 116, 61, 117, 116, 102, 45, 49, 54, 98, 101] = some ([97, 112, 112, 108, 105, 99, 97, 116, 105, 111, 110, 47, 114, 115, 115, 43, 120, 109, 108], [(Med.chName, [117, 116, 102, 45, 49, 54, 98, 101])]) := by rw [← Med.run_parse]; decide +kernel
theorem kE_parse3 : Med.parse [97, 112, 112, 108, 105, 99, 97, 116, 105, 111, 110, 47, 114, 115, 115, 43, 120, 109, 108, 59, 99, 104, 97, 114, 115, 101, 116, 61, 119, 105, 110, 100, 111, 119, 115, 45, 49, 50, 53, 50] = some ([97, 112, 112, 108, 105, 99, 97, 116, 105, 111, 110, 47, 114, 115, 115, 43, 120, 109, 108], [(Med.chName, [119, 105, 110, 100, 111, 119, 115, 45, 49, 50, 53, 50])]) := by rw [← Med.run_parse]; decide +kernel
theorem kE_parse4 : Med.parse [97, 112, 112, 108, 105, 99, 97, 116, 105, 111, 110, 47, 114, 115, 115, 43, 120, 109, 108, 59, 99, 104, 97, 114, 115, 101, 116, 61, 105, 115, 111, 45, 56, 56, 53, 57, 45, 53] = some ([97, 112, 112, 108, 105, 99, 97, 116, 105, 111, 110, 47, 114, 115, 115, 43, 120, 109, 108], [(Med.chName, [105, 115, 111, 45, 56, 56, 53, 57, 45, 53])]) := by rw [← Med.run_parse]; decide +kernel
theorem kE_parse5 : Med.parse [97, 112, 112, 108, 105, 99, 97, 116, 105, 111, 110, 47, 114, 115, 115, 43, 120, 109, 108, 59, 99, 104, 97, 114, 115, 101, 116, 61, 105, 115, 111, 45, 56, 56, 53, 57, 45, 49, 53] = some ([97, 112, 112, 108, 105, 99, 97, 116, 105, 111, 110, 47, 114, 115, 115, 43, 120, 109, 108], [(Med.chName, [105, 115, 111, 45, 56, 56, 53, 57, 45, 49, 53])]) := by rw [← Med.run_parse]; decide +kernel
theorem kE_all {e : Nat} (he : e < 6) : xmlK (kE e) = true ∧ chK (kE e) = (nmE e, true) ∧ Lab.ofL (nmE e) = ((e : Int), true) := by
  rcases (by omega : e = 0 ∨ e = 1 ∨ e = 2 ∨ e = 3 ∨ e = 4 ∨ e = 5) with rfl | rfl | rfl | rfl | rfl | rfl
  · exact ⟨xmlK_of kE_parse0 (by decide +kernel), chK_of kE_parse0 (by decide +kernel), by decide +kernel⟩
  · exact ⟨xmlK_of kE_parse1 (by decide +kernel), chK_of kE_parse1 (by decide +kernel), by decide +kernel⟩
  · exact ⟨xmlK_of kE_parse2 (by decide +kernel), chK_of kE_parse2 (by decide +kernel), by decide +kernel⟩
  · exact ⟨xmlK_of kE_parse3 (by decide +kernel), chK_of kE_parse3 (by decide +kernel), by decide +kernel⟩
  · exact ⟨xmlK_of kE_parse4 (by decide +kernel), chK_of kE_parse4 (by decide +kernel), by decide +kernel⟩
  · exact ⟨xmlK_of kE_parse5 (by decide +kernel), chK_of kE_parse5 (by decide +kernel), by decide +kernel⟩
/-- What wakes asks for. -/
theorem wk1_txt : txtF kL1 [239, 187, 191, 97] = ([97], 0, [], 0) := txt_mark (e := 0) (by omega) kL1_xml (t := [97]) (b := [97]) (by decide) (by decide +kernel)
theorem wk2_enc : encF kNone [97] = (0, 0, [(1, 0)]) := by
  have h0 : rs0 kNone = [] := by unfold rs0; rw [if_pos kNone_xml]
  have h1 : Dec.mrk [97] = none := by decide
  have h2 : Dec.shp [97] = none := by decide
  have h3 : Dec.scn [97] = none := by
    unfold Dec.scn Dec.prts
    rw [show Dec.dcl [97] = none by decide]
    rfl
  unfold encF
  rw [h1, kNone_chs, none_of, h0]
  unfold encB
  rw [h2, h3]
  rfl
theorem wk2_txt : txtF kNone [97] = ([97], 0, [(1, 0)], 0) := by
  have hd : decF 0 [97] = ([97], -1) := (dec_encd (e := 0) (by decide) (t := [97]) (b := [97]) (by decide +kernel)).1
  unfold txtF
  rw [wk2_enc]
  dsimp only
  rw [show (0 : Int).toNat = 0 from rfl, List.drop_zero, hd]
  rfl
def RetB (b : Bool) (w : World) (e : Ending) (w' : World) : Prop := e = .returned (.bool b) ∧ Below w.heap.size w w'
end Go.Proofs.YtppabkllconkjaaGreatDoor.Snf
