/- Joined: SK, WRD, WF, WG. -/
import Derived.BigQuiet
import Derived.Deep.AppendLies
import Derived.Deep.DeepCutAuto
import Derived.Deep.LoopGhost
import Derived.Deep.OwnRows
import Derived.Deep.QuietTactic
import Derived.Deep.RegionHeld3
import Derived.Deep.WholeRow
import Derived.Laws.AppendOwn
import Derived.Laws.BytesArg
import Derived.Laws.DeepStrings4
import Derived.Laws.IdiomStrings
import Derived.Lib.AppendStr
import Derived.Lib.Hide
import Derived.LoopIn
import Derived.LoopN
import Derived.LoopNIn
import Derived.Maps.AppendAt
import Derived.Maps.Own
import Derived.Maps.OwnSet
import Derived.OpenShut
import Derived.Outline
import Derived.OwnWalkIn
import Derived.ProofKit
import Derived.RangeFuncBound
import Derived.RangeFuncBox
import Derived.RangeFuncCalls
import Derived.RangeFuncLeaves
import Derived.RangeFuncNested
import Derived.Shelf.Abstract
import Derived.Shelf.RegionOpen
import Derived.StillTailTactics
import Derived.TacticsInMore
import Derived.Test.YtppabkllconkjaaGreatDoorRows
import Derived.WalkKit
import Derived.WalkMore
import Derived.Test.YtppabkllconkjaaGreatDoorK01
import Derived.Test.YtppabkllconkjaaGreatDoorK03
import Derived.Test.YtppabkllconkjaaGreatDoorK05
import Derived.Test.YtppabkllconkjaaGreatDoorK06
/- The contracts of Encode. -/
namespace Go.Proofs.YtppabkllconkjaaGreatDoor.U
open Go.RowKit Go.Maps
set_option linter.unusedVariables false
set_option linter.unusedSimpArgs false
set_option maxRecDepth 100000
/-- What Encode tells: from place a on, acc having been told. -/
def eF (f : Int → Option Nat) : Nat → List UInt8 → Nat → List UInt8 → List UInt8 × Int × Int
  | 0, _, _, acc => (acc, -1, 0)
  | n + 1, l, a, acc => if l = [] then (acc, -1, 0) else if (dec l).1 = -1 then ([], (a : Int), 2) else
      match f (dec l).1 with
      | none => ([], (a : Int), 2)
      | some b => eF f n (l.drop (dec l).2) (a + (dec l).2) (acc ++ [by8 (b : Int)])
theorem eF_nil (f : Int → Option Nat) (n a : Nat) (acc : List UInt8) : eF f n [] a acc = (acc, -1, 0) := by
  cases n <;> simp [eF]
theorem eF_bad {f : Int → Option Nat} {n a : Nat} {l acc : List UInt8} {k : Nat} (hl : l ≠ []) (hd : dec l = (-1, k)) : eF f (n + 1) l a acc = ([], (a : Int), 2) := by
  simp [eF, hl, hd]
theorem eF_none {f : Int → Option Nat} {n a : Nat} {l acc : List UInt8} {r : Int} {k : Nat} (hl : l ≠ []) (hd : dec l = (r, k)) (hr : r ≠ -1) (hf : f r = none) : eF f (n + 1) l a acc = ([], (a : Int), 2) := by
  simp [eF, hl, hd, hr, hf]
theorem eF_some {f : Int → Option Nat} {n a : Nat} {l acc : List UInt8} {r : Int} {k b : Nat} (hl : l ≠ []) (hd : dec l = (r, k)) (hr : r ≠ -1) (hf : f r = some b) : eF f (n + 1) l a acc = eF f n (l.drop k) (a + k) (acc ++ [by8 (b : Int)]) := by
  simp [eF, hl, hd, hr, hf]
/-- Where Encode stands: behind a bytes, acc having been told; what it tells in the end is R. -/
def EAt (f : Int → Option Nat) (l : List UInt8) (R : List UInt8 × Int × Int) (a : Nat) (acc : List UInt8) : Prop := a ≤ l.length ∧ acc.length ≤ a ∧ ∃ n, (l.drop a).length ≤ n ∧ eF f n (l.drop a) a acc = R
theorem EAt.start (f : Int → Option Nat) (l : List UInt8) : EAt f l (eF f l.length l 0 []) 0 [] := ⟨Nat.zero_le _, Nat.le_refl _, l.length, by simp, by simp⟩
theorem EAt.done {f : Int → Option Nat} {l : List UInt8} {R : List UInt8 × Int × Int} {a : Nat} {acc : List UInt8} (h : EAt f l R a acc) (ha : ¬ a < l.length) : R = (acc, -1, 0) := by
  obtain ⟨_, _, n, _, hR⟩ := h
  rw [List.drop_eq_nil_of_le (by omega), eF_nil] at hR
  exact hR.symm
theorem EAt.bad {f : Int → Option Nat} {l : List UInt8} {R : List UInt8 × Int × Int} {a : Nat} {acc : List UInt8} (h : EAt f l R a acc) (ha : a < l.length) {k : Nat} (hd : dec (l.drop a) = (-1, k)) : R = ([], (a : Int), 2) := by
  obtain ⟨_, _, n, hn, hR⟩ := h
  have hne := drop_ne ha
  obtain ⟨m, rfl⟩ : ∃ m, n = m + 1 := ⟨n - 1, by simp only [List.length_drop] at hn; omega⟩
  rw [eF_bad hne hd] at hR
  exact hR.symm
theorem EAt.miss {f : Int → Option Nat} {l : List UInt8} {R : List UInt8 × Int × Int} {a : Nat} {acc : List UInt8} (h : EAt f l R a acc) (ha : a < l.length) {r : Int} {k : Nat} (hd : dec (l.drop a) = (r, k)) (hr : r ≠ -1) (hf : f r = none) : R = ([], (a : Int), 2) := by
  obtain ⟨_, _, n, hn, hR⟩ := h
  have hne := drop_ne ha
  obtain ⟨m, rfl⟩ : ∃ m, n = m + 1 := ⟨n - 1, by simp only [List.length_drop] at hn; omega⟩
  rw [eF_none hne hd hr hf] at hR
  exact hR.symm
theorem EAt.next {f : Int → Option Nat} {l : List UInt8} {R : List UInt8 × Int × Int} {a : Nat} {acc : List UInt8} (h : EAt f l R a acc) (ha : a < l.length) {r : Int} {k b : Nat} (hd : dec (l.drop a) = (r, k)) (hr : r ≠ -1) (hf : f r = some b) : EAt f l R (a + k) (acc ++ [by8 (b : Int)]) := by
  obtain ⟨_, h2, n, hn, hR⟩ := h
  have hne := drop_ne ha
  have h1 := dec_pos (l.drop a)
  have h3 := dec_le hne
  rw [hd] at h1 h3
  simp only [List.length_drop] at h1 h3 hn
  obtain ⟨m, rfl⟩ : ∃ m, n = m + 1 := ⟨n - 1, by omega⟩
  rw [eF_some hne hd hr hf, List.drop_drop] at hR
  refine ⟨by omega, by simp; omega, m, by simp; omega, hR⟩
/-- What Encode tells of a text. -/
def encR (e : Int) (s : ByteArray) : List UInt8 × Int × Int := if isE e = true then eF (bf e) s.data.toList.length s.data.toList 0 [] else ([], -1, 2)
def EncS (e : Int) (s : ByteArray) (w : World) (x : Ending) (w' : World) : Prop := x = .returned (.tuple #[.string (str (encR e s).1), .int .i64 (encR e s).2.1, .int .i64 (encR e s).2.2]) ∧ Below w.heap.size w w'
theorem enc_no {e : Int} {s : ByteArray} {w w' : World} (h : isE e = false) (hb : Below w.heap.size w w') : EncS e s w (.returned (.tuple #[.string ⟨#[]⟩, .int .i64 (-1), .int .i64 2])) w' := ⟨by unfold encR; rw [h]; rfl, hb⟩
theorem enc_of {e : Int} {s : ByteArray} {w w' : World} {R : List UInt8 × Int × Int} {b : List UInt8} {a c : Int} (hR : encR e s = R) (h : R = (b, a, c)) (hb : Below w.heap.size w w') : EncS e s w (.returned (.tuple #[.string (str b), .int .i64 a, .int .i64 c])) w' := ⟨by rw [hR, h], hb⟩
theorem encR_is {e : Int} (h : isE e = true) (s : ByteArray) : encR e s = eF (bf e) s.data.toList.length s.data.toList 0 [] := by unfold encR; rw [if_pos h]
theorem look_lt {e r : Int} {b : Nat} (h : bf e r = some b) : b < 256 := by
  cases hE : isE e
  · rw [bf_isnt hE] at h; simp at h
  · rw [bf_is hE] at h; exact (look_some h).1
/-- The bytes by their scalars, looked up. -/
theorem cod_run {w : World} {g : Nat → Int} {G : Nat} (hM : w.ownsMap Tryz.prog 3 (plainElem Tryz.prog 5) G 256 (cod g 256)) (hinj : ∀ a b, a < 256 → b < 256 → g a = g b → a = b) {r : Int} (hr : (Lit.int .i64 r).wf = true) :
    (Instr.lookup 158 (.map (some G)) (.int .i64 r) true).run Tryz.prog w = .ok (.tuple #[.int .u8 (((look g 256 r).getD 0 : Nat) : Int), .bool (look g 256 r).isSome]) w := by
  obtain ⟨h1, h2⟩ := cod_look hinj r 256 (Nat.le_refl _)
  generalize cod g 256 = D at h1 h2 hM
  generalize look g 256 r = o at h1 h2 ⊢
  obtain ⟨v, ps, hrun, hv⟩ := hM.look_ok lawI64 Tryz.underlying158 (zeroU8 w) (zd := .lit (.int .u8 0)) (zp := []) (plainElem_int Tryz.underlying5 (by decide)) (keyOf_int_mk Tryz.underlying3 hr)
  rw [h2] at hv
  rw [h1] at hrun
  obtain ⟨a, rfl, hz, _⟩ := plainElem_int_inv Tryz.underlying5 hv
  simp only [Prod.mk.injEq] at hz
  have : ((o.getD 0 : Nat) : Int) = a := by simpa using hz.1
  rw [this]
  exact hrun
theorem own8_snoc {w : World} {base n g cap : Nat} {xs : List UInt8} {b : Nat} (hb : b < 256) (hn : xs.length = n) (h : w.ownsRow base 5 1 (.slice (some ⟨g, 0, none⟩) (n + 1) cap) (n + 1) (xs.map u8v ++ [.int .u8 (b : Int)])) : Own8 w base (.slice (some ⟨g, 0, none⟩) (n + 1) cap) (xs ++ [by8 (b : Int)]) := by
  unfold Own8
  rw [List.length_append, List.map_append, hn]
  have e : u8v (by8 (b : Int)) = .int .u8 (b : Int) := by
    unfold u8v
    rw [by8_val (by omega) (by omega)]
  simp only [List.map_cons, List.map_nil, e, List.length_singleton]
  exact h
end Go.Proofs.YtppabkllconkjaaGreatDoor.U
/- The contract of the document's own Decode of layer 3. -/
namespace Go.Proofs.YtppabkllconkjaaGreatDoor.U
open Go.RowKit
set_option linter.unusedVariables false
set_option linter.unusedSimpArgs false
set_option maxRecDepth 100000
/-- Two slices of numbers of the call's own, in blocks apart. -/
structure TwoOwn (W : World) (n₀ : Nat) (xs ys : List Int) (u v : Value) : Prop where
  ra : W.ownsRow n₀ 3 1 u xs.length (xs.map (Value.int .i64))
  rb : W.ownsRow n₀ 3 1 v ys.length (ys.map (Value.int .i64))
  ne : ∀ g, u.ownBlock = some g → v.ownBlock ≠ some g
theorem TwoOwn.symm {W : World} {n₀ : Nat} {xs ys : List Int} {u v : Value} (h : TwoOwn W n₀ xs ys u v) : TwoOwn W n₀ ys xs v u :=
  ⟨h.rb, h.ra, fun g e e2 => h.ne g e2 e⟩
theorem TwoOwn.start (W : World) (n₀ : Nat) : TwoOwn W n₀ [] [] (.slice none 0 0) (.slice none 0 0) := ⟨World.ownsRow_nil _ _ _ _, World.ownsRow_nil _ _ _ _, fun g e => by cases e⟩
theorem TwoOwn.drew {W W' : World} {n₀ : Nat} {xs ys : List Int} {u v : Value} (h : TwoOwn W n₀ xs ys u v) (hd : Drew W W') : TwoOwn W' n₀ xs ys u v :=
  ⟨h.ra.kept (hd.grown none) (by cases u.ownBlock <;> simp), h.rb.kept (hd.grown none) (by cases v.ownBlock <;> simp), h.ne⟩
theorem TwoOwn.app {W w1 : World} {n₀ : Nat} {xs ys : List Int} {u v : Value} (h : TwoOwn W n₀ xs ys u v) (hn₀ : n₀ ≤ W.heap.size) {tmp : Obj} {g cap : Nat} {y : Int}
    (hown : w1.ownsRow n₀ 3 1 (.slice (some ⟨g, 0, none⟩) (ys.length + 1) cap) (ys.length + 1) (ys.map (Value.int .i64) ++ [.int .i64 y]))
    (hgrow : (W.alloc tmp).grownBy w1 v.ownBlock) (hat : v.ownBlock = some g ∨ g = W.heap.size + 1) :
    TwoOwn w1 n₀ xs (ys ++ [y]) u (.slice (some ⟨g, 0, none⟩) (ys.length + 1) cap) ∧ Below n₀ W w1 := by
  refine ⟨⟨(h.ra.alloc tmp).kept hgrow ?_, by rw [List.length_append, List.map_append]; exact hown, ?_⟩, ?_⟩
  · cases hu : u.ownBlock with
    | none => exact .inl rfl
    | some k => exact .inr (fun e => h.ne k hu e.symm)
  · intro k hk e
    have : g = k := by simpa [Value.ownBlock] using e
    subst this
    rcases hat with h1 | h1
    · exact h.ne g hk h1
    · have := (World.ownsRow.lt h.ra g hk).2
      omega
  · exact ((Below.refl n₀ W).alloc hn₀ tmp).grown hgrow (by simp; omega) (fun j e => (World.ownsRow.lt h.rb j e).1)
/-- Where the walk over bytes stands: behind a of them, xs having been told, ys being the places of what was wrong. -/
structure DAt (big : Bool) (l : List UInt8) (a : Nat) (xs ys : List Int) : Prop where
  le : a ≤ l.length
  few : xs.length ≤ a
  few2 : ys.length ≤ a
  x : x16 big l = xs ++ x16 big (l.drop a)
  b : b16 big l = ys ++ bds (p16 big (l.drop a)) a
theorem DAt.start (big : Bool) (l : List UInt8) : DAt big l 0 [] [] := ⟨Nat.zero_le _, Nat.le_refl _, Nat.le_refl _, by simp, by simp [b16]⟩
theorem DAt.bad {big : Bool} {l : List UInt8} {a : Nat} {xs ys : List Int} (h : DAt big l a xs ys) (hl : a < l.length) {n : Nat} (hd : d16 big (l.drop a) = (-1, n)) : DAt big l (a + n) (xs ++ [65533]) (ys ++ [(a : Int)]) := by
  have hne := drop_ne hl
  have h1 := (d16_pos big (l.drop a)).1
  have h2 := d16_le big hne
  rw [hd] at h1 h2
  simp only [List.length_drop] at h1 h2
  refine ⟨by omega, by simp; have := h.few; omega, by simp; have := h.few2; omega, ?_, ?_⟩
  · rw [h.x, x16_cons big hne, hd, List.drop_drop]; simp [fixR]
  · rw [h.b, p16_cons big hne, hd, bds_bad rfl, List.drop_drop]; simp
theorem DAt.good {big : Bool} {l : List UInt8} {a : Nat} {xs ys : List Int} (h : DAt big l a xs ys) (hl : a < l.length) {n : Nat} {r : Int} (hd : d16 big (l.drop a) = (r, n)) (hr : r ≠ -1) : DAt big l (a + n) (xs ++ [r]) ys := by
  have hne := drop_ne hl
  have h1 := (d16_pos big (l.drop a)).1
  have h2 := d16_le big hne
  rw [hd] at h1 h2
  simp only [List.length_drop] at h1 h2
  refine ⟨by omega, by simp; have := h.few; omega, by have := h.few2; omega, ?_, ?_⟩
  · rw [h.x, x16_cons big hne, hd, List.drop_drop]; simp [fixR, hr]
  · rw [h.b, p16_cons big hne, hd, bds_good hr, List.drop_drop]
theorem DAt.done {big : Bool} {l : List UInt8} {a : Nat} {xs ys : List Int} (h : DAt big l a xs ys) (hl : ¬ a < l.length) : x16 big l = xs ∧ b16 big l = ys := by
  have e : l.drop a = [] := List.drop_eq_nil_of_le (by omega)
  have h1 := h.x
  have h2 := h.b
  rw [e] at h1 h2
  exact ⟨by simpa [x16, s16, p16_nil] using h1, by simpa [p16_nil, bds] using h2⟩
theorem dec16_end {w wr w1 : World} {big : Bool} {l : List UInt8} {xs ys : List Int} {u v : Value} {a : Nat} (hD : DAt big l a xs ys) (hl : ¬ a < l.length) (hT : TwoOwn wr w.heap.size xs ys u v) (hB : Below w.heap.size w wr) (hb : Below wr.heap.size wr w1) :
    Dec16S w big l (.returned (.tuple #[.string (str (encs xs)), v])) w1 := by
  obtain ⟨h1, h2⟩ := hD.done hl
  refine ⟨v, by unfold t16; rw [h1], ?_, hB.trans (hb.mono hB.size)⟩
  rw [h2]
  exact hT.rb.kept (row := none) ⟨hb.os, hb.tape, hb.output, hb.size, fun j hj _ => hb.block j hj⟩ (by cases v.ownBlock <;> simp)
theorem dec16_text {wr : World} {n₀ : Nat} {big : Bool} {l : List UInt8} {xs ys : List Int} {u v : Value} {a : Nat} (hD : DAt big l a xs ys) (hl : ¬ a < l.length) (hs : l.length ≤ 10000) (hT : TwoOwn wr n₀ xs ys u v) :
    Calls Tryz.prog 67 #[u] wr fun e w' => e = .returned (.tuple #[.string (str (encs xs)), .bool true]) ∧ Below wr.heap.size wr w' := by
  obtain ⟨h1, h2⟩ := hD.done hl
  have h3 : allB xs = true := by rw [← h1]; exact x16_all _ _
  have := rtext_any u xs wr (ints_of_own hT.ra) (by have := hD.few; have := hD.le; omega)
  unfold TextS at this
  rwa [h3, if_pos rfl] at this
set_option maxRecDepth 100000 in
set_option maxHeartbeats 4000000 in
theorem rdecode_any (s : ByteArray) (big : Bool) (w : World) (hs : s.size ≤ 10000) : Calls Tryz.prog 35 #[.string s, .bool big] w fun e w' => Dec16S w big s.data.toList e w' := by
  obtain ⟨i0, hi, hz0, hz1, hz2⟩ := info_parts info3
  have hsz : s.data.toList.length = s.size := by simp
  obtain ⟨l, HL⟩ : ∃ l, Hid (s.data.toList = l) := ⟨_, Lib.hid rfl⟩
  have HSZ : Hid (l.length = s.size) := Lib.hid (by rw [← HL.out]; exact hsz)
  have HSL : Hid (l.length ≤ 10000) := Lib.hid (by rw [HSZ.out]; exact hs)
  rw [HL.out]
  clear hsz
  go_enter Tryz.func35, Tryz.ntmps35
  go_wp2_with fail
  go_loopg [6, 7, 8] (s.size + 1) (fun g q6 q7 q8 wr => ∃ (u v : Value) (a : Nat) (xs ys : List Int), u = q6 ∧ v = q7 ∧ a + g = s.size + 1 ∧ q8 = .int .i64 a ∧ Hid (DAt big l a xs ys) ∧ Hid (TwoOwn wr w.heap.size xs ys q6 q7) ∧ Hid (Below w.heap.size w wr))
  case atStart => exact ⟨_, _, 0, [], [], rfl, rfl, by omega, rfl, Lib.hid (DAt.start _ _), Lib.hid (TwoOwn.start _ _), Lib.hid (Below.refl _ _)⟩
  case round =>
    obtain ⟨u, v, a, xs, ys, rfl, rfl, hag, rfl, HA, HT, HB⟩ := hrel
    have hwz := HB.out.size
    have hale : a ≤ s.size := by have := HA.out.le; rw [HSZ.out] at this; exact this
    have hxl : xs.length ≤ a := HA.out.few
    have hyl : ys.length ≤ a := HA.out.few2
    have HBb : Hid (∀ x, Below w.heap.size wr x → Below w.heap.size w x) := Lib.hid (fun x h => HB.out.trans h)
    by_cases hlt : a < s.size
    rotate_left 1
    · have hl : ¬ a < l.length := by rw [HSZ.out]; exact hlt
      have HTx := Lib.hid (dec16_text HA.out hl HSL.out HT.out)
      have HE : Hid (∀ w1, Below wr.heap.size wr w1 → Dec16S w big l (.returned (.tuple #[.string (str (encs xs)), v])) w1) := Lib.hid (fun w1 hb => dec16_end HA.out hl HT.out HB.out hb)
      clear hl
      go_wp2_with (go_at_call 67; refine HTx.out.mono ?_; rintro e w1 ⟨rfl, hb1⟩; have HB1 := Lib.hid hb1; clear hb1)
      go_ret2
      exact HE.out _ HB1.out
    have hll : a < l.length := by rw [HSZ.out]; exact hlt
    have HLL := Lib.hid hll
    clear hll
    by_cases h1 : a + 1 = s.size
    · have HS := Lib.hid (HA.out.bad HLL.out (n := 1) (by rw [← HL.out, drop_last s a h1]; rfl))
      have hd0 : ((a : Int) + 1 == (s.size : Int)) = true := by simp; omega
      have hl : ¬ a + 1 < l.length := by rw [HSZ.out]; omega
      have HNL := Lib.hid hl
      clear hl
      go_wp2_with (first
        | (at_builtin; refine wpList_append_lies _ rfl _ _ _ rfl w.heap.size 3 i0 _ 1 8 Tryz.underlying74 hi hz0 hz1 hz2 rfl (by omega) u xs.length (xs.map (Value.int .i64)) rfl (World.ownsRow.alloc (HT.out).ra _) ⟨wr.heap.size, 0, none⟩ 1 1 [_] rfl rfl (cell_one_new _ _ _) (by simp [Value.oneCell']) (by omega) (by unfold maxLen; omega) (by omega) (by simp; omega) (wr.heap.size + 1) (by simp) ?_; intro g4 cap4 x4 hown4 hgrow4 hat4 hlt4; obtain ⟨t, b⟩ := (HT.out).symm.app (by omega) hown4 hgrow4 hat4; have HT4 := Lib.hid (TwoOwn.symm t); have BB4 := Lib.hid b; have bz4 := b.size; clear hown4 hgrow4 hat4 t b)
        | (at_builtin; refine wpList_append_lies _ rfl _ _ _ rfl w.heap.size 3 i0 _ 1 8 Tryz.underlying74 hi hz0 hz1 hz2 rfl (by omega) v ys.length (ys.map (Value.int .i64)) rfl (World.ownsRow.alloc (HT4.out).rb _) ⟨x4.heap.size, 0, none⟩ 1 1 [_] rfl rfl (cell_one_new _ _ _) (by simp [Value.oneCell']) (by omega) (by unfold maxLen; omega) (by omega) (by simp; omega) (x4.heap.size + 1) (by simp) ?_; intro g5 cap5 x5 hown5 hgrow5 hat5 hlt5; obtain ⟨t, b⟩ := (HT4.out).app (by omega) hown5 hgrow5 hat5; have HT5 := Lib.hid t; have BB5 := Lib.hid b; have bz5 := b.size; clear hown5 hgrow5 hat5 t b)
        | (go_at_call 67; refine (dec16_text HS.out HNL.out HSL.out HT5.out).mono ?_; rintro e w6 ⟨rfl, hb6⟩; have HB6 := Lib.hid hb6; clear hb6))
      go_ret2
      exact dec16_end HS.out HNL.out HT5.out ((HB.out.trans BB4.out).trans BB5.out) HB6.out
    have h2 : a + 1 < s.size := by omega
    have hd0 : ((a : Int) + 1 == (s.size : Int)) = false := by simp; omega
    have HX : Hid (l.drop a = s[a] :: s[a + 1] :: l.drop (a + 2)) := Lib.hid (by rw [← HL.out]; exact drop_two s a h2)
    have hlt1 := un_lt big s[a] s[a + 1]
    have hU : ∀ w1, Calls Tryz.prog 64 #[.string s, .int .i64 a, .bool big] w1 fun e w' => UnitS s a big (un big s[a] s[a + 1]) w1 e w' := fun w1 => runit_any s a big w1 h2 (by omega)
    obtain ⟨n, hn⟩ : ∃ u, un big s[a] s[a + 1] = u := ⟨_, rfl⟩
    rw [hn] at hlt1
    simp only [hn] at hU
    have HU := Lib.hid hU
    have HQ := Lib.hid hn
    clear hU hn
    obtain ⟨hb, hhb⟩ : ∃ b, hiB n = b := ⟨_, rfl⟩
    obtain ⟨lb, hlb⟩ : ∃ b, loB n = b := ⟨_, rfl⟩
    have HH : Hid (∀ w1, Calls Tryz.prog 65 #[.int .i64 n] w1 fun e w' => e = .returned (.bool hb) ∧ w1 = w') := Lib.hid (fun w1 => by have := rhigh_any n w1; rwa [hhb] at this)
    have HL1 : Hid (∀ w1, Calls Tryz.prog 66 #[.int .i64 n] w1 fun e w' => e = .returned (.bool lb) ∧ w1 = w') := Lib.hid (fun w1 => by have := rlow_any n w1; rwa [hlb] at this)
    have HHB := Lib.hid hhb
    have HLB := Lib.hid hlb
    clear hhb hlb
    cases hb
    · cases lb
      · have HS := Lib.hid (HA.out.good HLL.out (n := 2) (r := n) (by rw [HX.out, ← HQ.out]; exact d16_un (by rw [HQ.out]; exact HLB.out) (by rw [HQ.out]; exact HHB.out) _) (by omega))
        go_wp2_with (first
        | (go_at_call 64; refine (HU.out _).mono ?_; rintro e w1 ⟨rfl, hd1⟩; have HD1 := Lib.hid hd1; have dz1 : w.heap.size ≤ w1.heap.size := (by have := (HD1.out).below 0 |>.size; omega); clear hd1 HU)
        | (go_at_call 65; refine (HH.out _).mono ?_; rintro e w' ⟨rfl, rfl⟩)
        | (go_at_call 66; refine (HL1.out _).mono ?_; rintro e w' ⟨rfl, rfl⟩)
        | (at_builtin; refine wpList_append_lies _ rfl _ _ _ rfl w.heap.size 3 i0 _ 1 8 Tryz.underlying74 hi hz0 hz1 hz2 rfl (by omega) u xs.length (xs.map (Value.int .i64)) rfl (World.ownsRow.alloc (HT.out.drew HD1.out).ra _) ⟨w1.heap.size, 0, none⟩ 1 1 [_] rfl rfl (cell_one_new _ _ _) (by simp [Value.oneCell']) (by omega) (by unfold maxLen; omega) (by omega) (by simp; omega) (w1.heap.size + 1) (by simp) ?_; intro g4 cap4 x4 hown4 hgrow4 hat4 hlt4; obtain ⟨t, b⟩ := (HT.out.drew HD1.out).symm.app (by omega) hown4 hgrow4 hat4; have HT4 := Lib.hid (TwoOwn.symm t); have BB4 := Lib.hid b; have bz4 := b.size; clear hown4 hgrow4 hat4 t b))
        have HBx : Hid (Below w.heap.size w x4) := Lib.hid (HBb.out _ ((Drew.below HD1.out _).trans BB4.out))
        go_roundg (gk - 2)
        case measure => omega
        case rel => exact ⟨_, _, a + 2, _, _, rfl, rfl, by omega, by go_num, HS, HT4, HBx⟩
      · have HS := Lib.hid (HA.out.bad HLL.out (n := 2) (by rw [HX.out]; exact d16_lo (by rw [HQ.out]; exact HLB.out) _))
        go_wp2_with (first
        | (go_at_call 64; refine (HU.out _).mono ?_; rintro e w1 ⟨rfl, hd1⟩; have HD1 := Lib.hid hd1; have dz1 : w.heap.size ≤ w1.heap.size := (by have := (HD1.out).below 0 |>.size; omega); clear hd1 HU)
        | (go_at_call 65; refine (HH.out _).mono ?_; rintro e w' ⟨rfl, rfl⟩)
        | (go_at_call 66; refine (HL1.out _).mono ?_; rintro e w' ⟨rfl, rfl⟩)
        | (at_builtin; refine wpList_append_lies _ rfl _ _ _ rfl w.heap.size 3 i0 _ 1 8 Tryz.underlying74 hi hz0 hz1 hz2 rfl (by omega) v ys.length (ys.map (Value.int .i64)) rfl (World.ownsRow.alloc (HT.out.drew HD1.out).rb _) ⟨w1.heap.size, 0, none⟩ 1 1 [_] rfl rfl (cell_one_new _ _ _) (by simp [Value.oneCell']) (by omega) (by unfold maxLen; omega) (by omega) (by simp; omega) (w1.heap.size + 1) (by simp) ?_; intro g4 cap4 x4 hown4 hgrow4 hat4 hlt4; obtain ⟨t, b⟩ := (HT.out.drew HD1.out).app (by omega) hown4 hgrow4 hat4; have HT4 := Lib.hid t; have BB4 := Lib.hid b; have bz4 := b.size; clear hown4 hgrow4 hat4 t b)
        | (at_builtin; refine wpList_append_lies _ rfl _ _ _ rfl w.heap.size 3 i0 _ 1 8 Tryz.underlying74 hi hz0 hz1 hz2 rfl (by omega) u xs.length (xs.map (Value.int .i64)) rfl (World.ownsRow.alloc (HT4.out).ra _) ⟨x4.heap.size, 0, none⟩ 1 1 [_] rfl rfl (cell_one_new _ _ _) (by simp [Value.oneCell']) (by omega) (by unfold maxLen; omega) (by omega) (by simp; omega) (x4.heap.size + 1) (by simp) ?_; intro g5 cap5 x5 hown5 hgrow5 hat5 hlt5; obtain ⟨t, b⟩ := (HT4.out).symm.app (by omega) hown5 hgrow5 hat5; have HT5 := Lib.hid (TwoOwn.symm t); have BB5 := Lib.hid b; have bz5 := b.size; clear hown5 hgrow5 hat5 t b))
        have HBx : Hid (Below w.heap.size w x5) := Lib.hid (HBb.out _ (((Drew.below HD1.out _).trans BB4.out).trans BB5.out))
        go_roundg (gk - 2)
        case measure => omega
        case rel => exact ⟨_, _, a + 2, _, _, rfl, rfl, by omega, by go_num, HS, HT5, HBx⟩
    by_cases h3 : a + 3 < s.size
    rotate_left 1
    · have HS := Lib.hid (HA.out.bad HLL.out (n := 2) (by rw [HX.out]; exact d16_hi0 (by rw [HQ.out]; exact HHB.out) (by have := HSZ.out; simp; omega)))
      have hd3 : decide ((a : Int) + 3 < (s.size : Int)) = false := by simp; omega
      go_wp2_with (first
        | (go_at_call 64; refine (HU.out _).mono ?_; rintro e w1 ⟨rfl, hd1⟩; have HD1 := Lib.hid hd1; have dz1 : w.heap.size ≤ w1.heap.size := (by have := (HD1.out).below 0 |>.size; omega); clear hd1 HU)
        | (go_at_call 65; refine (HH.out _).mono ?_; rintro e w' ⟨rfl, rfl⟩)
        | (go_at_call 66; refine (HL1.out _).mono ?_; rintro e w' ⟨rfl, rfl⟩)
        | (at_builtin; refine wpList_append_lies _ rfl _ _ _ rfl w.heap.size 3 i0 _ 1 8 Tryz.underlying74 hi hz0 hz1 hz2 rfl (by omega) v ys.length (ys.map (Value.int .i64)) rfl (World.ownsRow.alloc (HT.out.drew HD1.out).rb _) ⟨w1.heap.size, 0, none⟩ 1 1 [_] rfl rfl (cell_one_new _ _ _) (by simp [Value.oneCell']) (by omega) (by unfold maxLen; omega) (by omega) (by simp; omega) (w1.heap.size + 1) (by simp) ?_; intro g4 cap4 x4 hown4 hgrow4 hat4 hlt4; obtain ⟨t, b⟩ := (HT.out.drew HD1.out).app (by omega) hown4 hgrow4 hat4; have HT4 := Lib.hid t; have BB4 := Lib.hid b; have bz4 := b.size; clear hown4 hgrow4 hat4 t b)
        | (at_builtin; refine wpList_append_lies _ rfl _ _ _ rfl w.heap.size 3 i0 _ 1 8 Tryz.underlying74 hi hz0 hz1 hz2 rfl (by omega) u xs.length (xs.map (Value.int .i64)) rfl (World.ownsRow.alloc (HT4.out).ra _) ⟨x4.heap.size, 0, none⟩ 1 1 [_] rfl rfl (cell_one_new _ _ _) (by simp [Value.oneCell']) (by omega) (by unfold maxLen; omega) (by omega) (by simp; omega) (x4.heap.size + 1) (by simp) ?_; intro g5 cap5 x5 hown5 hgrow5 hat5 hlt5; obtain ⟨t, b⟩ := (HT4.out).symm.app (by omega) hown5 hgrow5 hat5; have HT5 := Lib.hid (TwoOwn.symm t); have BB5 := Lib.hid b; have bz5 := b.size; clear hown5 hgrow5 hat5 t b))
      have HBx : Hid (Below w.heap.size w x5) := Lib.hid (HBb.out _ (((Drew.below HD1.out _).trans BB4.out).trans BB5.out))
      go_roundg (gk - 2)
      case measure => omega
      case rel => exact ⟨_, _, a + 2, _, _, rfl, rfl, by omega, by go_num, HS, HT5, HBx⟩
    have hd3 : decide ((a : Int) + 3 < (s.size : Int)) = true := by simp; omega
    have HX2 : Hid (l.drop (a + 2) = s[a + 2] :: s[a + 3] :: l.drop (a + 4)) := Lib.hid (by rw [← HL.out]; exact drop_two s (a + 2) h3)
    have hlt2 := un_lt big s[a + 2] s[a + 3]
    have hU2 : ∀ w1, Calls Tryz.prog 64 #[.string s, .int .i64 ((a : Int) + 2), .bool big] w1 fun e w' => UnitS s (a + 2) big (un big s[a + 2] s[a + 3]) w1 e w' := fun w1 => runit_any s (a + 2) big w1 h3 (by omega)
    obtain ⟨m, hm⟩ : ∃ u, un big s[a + 2] s[a + 3] = u := ⟨_, rfl⟩
    rw [hm] at hlt2
    simp only [hm] at hU2
    have HU2 := Lib.hid hU2
    have HU3 := Lib.hid hU2
    have HQ2 := Lib.hid hm
    clear hU2 hm
    obtain ⟨mb, hmb⟩ : ∃ b, loB m = b := ⟨_, rfl⟩
    have HL2 : Hid (∀ w1, Calls Tryz.prog 66 #[.int .i64 m] w1 fun e w' => e = .returned (.bool mb) ∧ w1 = w') := Lib.hid (fun w1 => by have := rlow_any m w1; rwa [hmb] at this)
    have HMB := Lib.hid hmb
    clear hmb HL1
    cases mb
    · have HS := Lib.hid (HA.out.bad HLL.out (n := 2) (by rw [HX.out, HX2.out]; exact d16_hi1 (by rw [HQ.out]; exact HHB.out) (by rw [HQ2.out]; exact HMB.out) _))
      go_wp2_with (first
        | (go_at_call 64; refine (HU.out _).mono ?_; rintro e w1 ⟨rfl, hd1⟩; have HD1 := Lib.hid hd1; have dz1 : w.heap.size ≤ w1.heap.size := (by have := (HD1.out).below 0 |>.size; omega); clear hd1 HU)
        | (go_at_call 64; refine (HU2.out _).mono ?_; rintro e w2 ⟨rfl, hd2⟩; have HD2 : Hid (Drew wr w2) := Lib.hid (HD1.out.trans hd2); have dz2 : w.heap.size ≤ w2.heap.size := (by have := (HD2.out).below 0 |>.size; omega); clear hd2 HU2)
        | (go_at_call 65; refine (HH.out _).mono ?_; rintro e w' ⟨rfl, rfl⟩)
        | (go_at_call 66; refine (HL2.out _).mono ?_; rintro e w' ⟨rfl, rfl⟩)
        | (at_builtin; refine wpList_append_lies _ rfl _ _ _ rfl w.heap.size 3 i0 _ 1 8 Tryz.underlying74 hi hz0 hz1 hz2 rfl (by omega) v ys.length (ys.map (Value.int .i64)) rfl (World.ownsRow.alloc (HT.out.drew HD2.out).rb _) ⟨w2.heap.size, 0, none⟩ 1 1 [_] rfl rfl (cell_one_new _ _ _) (by simp [Value.oneCell']) (by omega) (by unfold maxLen; omega) (by omega) (by simp; omega) (w2.heap.size + 1) (by simp) ?_; intro g4 cap4 x4 hown4 hgrow4 hat4 hlt4; obtain ⟨t, b⟩ := (HT.out.drew HD2.out).app (by omega) hown4 hgrow4 hat4; have HT4 := Lib.hid t; have BB4 := Lib.hid b; have bz4 := b.size; clear hown4 hgrow4 hat4 t b)
        | (at_builtin; refine wpList_append_lies _ rfl _ _ _ rfl w.heap.size 3 i0 _ 1 8 Tryz.underlying74 hi hz0 hz1 hz2 rfl (by omega) u xs.length (xs.map (Value.int .i64)) rfl (World.ownsRow.alloc (HT4.out).ra _) ⟨x4.heap.size, 0, none⟩ 1 1 [_] rfl rfl (cell_one_new _ _ _) (by simp [Value.oneCell']) (by omega) (by unfold maxLen; omega) (by omega) (by simp; omega) (x4.heap.size + 1) (by simp) ?_; intro g5 cap5 x5 hown5 hgrow5 hat5 hlt5; obtain ⟨t, b⟩ := (HT4.out).symm.app (by omega) hown5 hgrow5 hat5; have HT5 := Lib.hid (TwoOwn.symm t); have BB5 := Lib.hid b; have bz5 := b.size; clear hown5 hgrow5 hat5 t b))
      have HBx : Hid (Below w.heap.size w x5) := Lib.hid (HBb.out _ (((Drew.below HD2.out _).trans BB4.out).trans BB5.out))
      go_roundg (gk - 2)
      case measure => omega
      case rel => exact ⟨_, _, a + 2, _, _, rfl, rfl, by omega, by go_num, HS, HT5, HBx⟩
    · have hc1 := hiB_iff.1 HHB.out
      have hc2 := loB_iff.1 HMB.out
      have HS := Lib.hid (HA.out.good HLL.out (n := 4) (r := 65536 + (n - 55296) * 1024 + m - 56320) (by
        rw [HX.out, HX2.out, d16_hi2 (by rw [HQ.out]; exact HHB.out) (by rw [HQ2.out]; exact HMB.out), HQ.out, HQ2.out]
        congr 1; omega) (by omega))
      go_wp2_with (first
        | (go_at_call 64; refine (HU.out _).mono ?_; rintro e w1 ⟨rfl, hd1⟩; have HD1 := Lib.hid hd1; have dz1 : w.heap.size ≤ w1.heap.size := (by have := (HD1.out).below 0 |>.size; omega); clear hd1 HU)
        | (go_at_call 64; refine (HU2.out _).mono ?_; rintro e w2 ⟨rfl, hd2⟩; have HD2 : Hid (Drew wr w2) := Lib.hid (HD1.out.trans hd2); have dz2 : w.heap.size ≤ w2.heap.size := (by have := (HD2.out).below 0 |>.size; omega); clear hd2 HU2)
        | (go_at_call 64; refine (HU3.out _).mono ?_; rintro e w3 ⟨rfl, hd3⟩; have HD3 : Hid (Drew wr w3) := Lib.hid (HD2.out.trans hd3); have dz3 : w.heap.size ≤ w3.heap.size := (by have := (HD3.out).below 0 |>.size; omega); clear hd3 HU3)
        | (go_at_call 65; refine (HH.out _).mono ?_; rintro e w' ⟨rfl, rfl⟩)
        | (go_at_call 66; refine (HL2.out _).mono ?_; rintro e w' ⟨rfl, rfl⟩)
        | (at_builtin; refine wpList_append_lies _ rfl _ _ _ rfl w.heap.size 3 i0 _ 1 8 Tryz.underlying74 hi hz0 hz1 hz2 rfl (by omega) u xs.length (xs.map (Value.int .i64)) rfl (World.ownsRow.alloc (HT.out.drew HD3.out).ra _) ⟨w3.heap.size, 0, none⟩ 1 1 [_] rfl rfl (cell_one_new _ _ _) (by simp [Value.oneCell']) (by omega) (by unfold maxLen; omega) (by omega) (by simp; omega) (w3.heap.size + 1) (by simp) ?_; intro g4 cap4 x4 hown4 hgrow4 hat4 hlt4; obtain ⟨t, b⟩ := (HT.out.drew HD3.out).symm.app (by omega) hown4 hgrow4 hat4; have HT4 := Lib.hid (TwoOwn.symm t); have BB4 := Lib.hid b; have bz4 := b.size; clear hown4 hgrow4 hat4 t b))
      have HBx : Hid (Below w.heap.size w x4) := Lib.hid (HBb.out _ ((Drew.below HD3.out _).trans BB4.out))
      go_roundg (gk - 4)
      case measure => omega
      case rel => exact ⟨_, _, a + 4, _, _, rfl, rfl, by omega, by go_num, HS, HT4, HBx⟩
end Go.Proofs.YtppabkllconkjaaGreatDoor.U
/- The contracts of utf16's putLow, putHigh, Units$1, scalarsBy, putAll, Encode, Units. -/
namespace Go.Proofs.YtppabkllconkjaaGreatDoor.U
open Go.RowKit
set_option linter.unusedVariables false
set_option linter.unusedSimpArgs false
set_option maxRecDepth 100000
/-- What a put does to the world: behind it lies as it lay whatever is below base, and each box but Bl, and each slice of numbers made later than Bl. -/
structure Eff (base Bl : Nat) (W W' : World) : Prop where
  below : Below base W W'
  box : ∀ (C : Nat) (t : TypeId) (z : Value), t ≠ 5 → C ≠ Bl → Boxed W C t z → Boxed W' C t z
  row : ∀ (n : Nat) (u : Value) (k : Nat) (zs : List Value), Bl < n → W.ownsRow n 3 1 u k zs → W'.ownsRow n 3 1 u k zs
theorem Eff.refl (base Bl : Nat) (W : World) : Eff base Bl W W := ⟨Below.refl _ _, fun _ _ _ _ _ h => h, fun _ _ _ _ _ h => h⟩
theorem Eff.trans {base Bl : Nat} {A B C : World} (h : Eff base Bl A B) (k : Eff base Bl B C) : Eff base Bl A C :=
  ⟨h.below.trans k.below, fun c t z h1 h2 h3 => k.box c t z h1 h2 (h.box c t z h1 h2 h3), fun n u m zs h1 h2 => k.row n u m zs h1 (h.row n u m zs h1 h2)⟩
theorem rows_apart {W : World} {n m j k : Nat} {u v : Value} {xs ys : List Value} (h : W.ownsRow n 3 1 u j xs) (h2 : W.ownsRow m 5 1 v k ys) : u.ownBlock = none ∨ u.ownBlock ≠ v.ownBlock := by
  rcases h.2 with ⟨rfl, _⟩ | ⟨g, cap, cur, rfl, _, hg, _⟩
  · exact .inl rfl
  · rcases h2.2 with ⟨rfl, _⟩ | ⟨g2, cap2, cur2, rfl, _, hg2, _⟩
    · right; simp [Value.ownBlock]
    · right
      intro e
      have : g = g2 := by simpa [Value.ownBlock] using e
      subst this
      rw [hg] at hg2
      simp at hg2
/-- The box Bl holds a slice of bytes of the call's own, which are xs. -/
def BInv (W : World) (base Bl : Nat) (xs : List UInt8) : Prop := ∃ v, Boxed W Bl 151 v ∧ Own8 W base v xs
def PutS16 (W : World) (base Bl : Nat) (ys : List UInt8) (e : Ending) (W' : World) : Prop := e = .returned (.tuple #[]) ∧ BInv W' base Bl ys ∧ Eff base Bl W W'
theorem put_eff {W w1 : World} {base Bl g cap n : Nat} {v : Value} {xs : List UInt8} {tmp : Obj} {a b : Int} (hv : Boxed W Bl 151 v) (hown : Own8 W base v xs) (hbase : base ≤ W.heap.size) (hBl : base ≤ Bl)
    (h1 : w1.ownsRow base 5 1 (.slice (some ⟨g, 0, none⟩) n cap) n (xs.map u8v ++ [.int .u8 a, .int .u8 b])) (hgrow : (W.alloc tmp).grownBy w1 v.ownBlock) (hn : n = xs.length + 2) (ha : 0 ≤ a) (ha1 : a < 256) (hb : 0 ≤ b) (hb1 : b < 256) :
    (w1.cell? ⟨Bl, 0, none⟩ = some v ∧ w1.frozen? ⟨Bl, 0, none⟩ = false) ∧ BInv (w1.setCell ⟨Bl, 0, none⟩ (.slice (some ⟨g, 0, none⟩) n cap)) base Bl (xs ++ [by8 a, by8 b]) ∧ Eff base Bl W (w1.setCell ⟨Bl, 0, none⟩ (.slice (some ⟨g, 0, none⟩) n cap)) := by
  obtain ⟨b1, b2, b3, b4, b5⟩ := hv.appended (by decide) hown hbase hBl h1 hgrow
  refine ⟨⟨b1.cell, b1.frozen⟩, ⟨_, b2, own8_app b3 hn ha ha1 hb hb1⟩, b5, ?_, ?_⟩
  · intro C t z ht hC hz
    exact ((hz.alloc tmp).kept hgrow (hz.not_row ht hown)).other hC _
  · intro n' u k zs hn' hu
    have h2 : w1.ownsRow n' 3 1 u k zs := (hu.alloc tmp).kept hgrow (rows_apart hu hown)
    exact ownsRow_setCell h2 b1 (by decide) _
theorem putLow_any (base Bl : Nat) (xs : List UInt8) (u : Int) (W : World) (hbase : base ≤ W.heap.size) (hBl : base ≤ Bl) (hI : BInv W base Bl xs) (hlen : xs.length ≤ 100000) (h0 : 0 ≤ u) (h1 : u < 65536) :
    Calls Tryz.prog 130 #[.pointer (some ⟨Bl, 0, none⟩), .int .i64 u] W fun e w' => PutS16 W base Bl (xs ++ two false u) e w' := by
  obtain ⟨i0, hi, hz0, hz1, hz2⟩ := info_parts info5
  obtain ⟨v, hv, hown⟩ := hI
  have HV := Lib.hid hv
  have HO := Lib.hid hown
  have hc := hv.cell
  clear hv hown
  have hw0 : IntKind.u8.wrap u = u % 256 := by rw [IntKind.wrap_u8]
  have hw1 : IntKind.u8.wrap (u / 256) = u / 256 := by rw [IntKind.wrap_u8]; omega
  go_enter Tryz.func130, Tryz.ntmps130
  go_wp2_with (at_builtin; refine wpList_append_lies _ rfl _ _ _ rfl base 5 i0 _ 1 1 Tryz.underlying99 hi hz0 hz1 hz2 rfl (by omega) v xs.length (xs.map u8v) rfl (World.ownsRow.alloc HO.out _) ⟨W.heap.size, 0, none⟩ 2 2 [_, _] rfl rfl (World.news_of_block (t := 5) (fr := (0, 0)) (heap_alloc_new W _)) (by simp [Value.oneCell']) (by omega) (by unfold maxLen; omega) (by omega) (by simp; omega) (W.heap.size + 1) (by simp) ?_; intro g1 cap1 w1 hown1 hgrow1 hat1 hlt1; obtain ⟨⟨c1, f1⟩, t1, e1⟩ := put_eff HV.out HO.out hbase hBl hown1 hgrow1 rfl (by omega) (by omega) (by omega) (by omega); have T1 := Lib.hid t1; have E1 := Lib.hid e1; clear hown1 hgrow1 hat1 hlt1 t1 e1)
  go_end0
  exact ⟨rfl, T1.out, E1.out⟩
theorem putHigh_any (base Bl : Nat) (xs : List UInt8) (u : Int) (W : World) (hbase : base ≤ W.heap.size) (hBl : base ≤ Bl) (hI : BInv W base Bl xs) (hlen : xs.length ≤ 100000) (h0 : 0 ≤ u) (h1 : u < 65536) :
    Calls Tryz.prog 131 #[.pointer (some ⟨Bl, 0, none⟩), .int .i64 u] W fun e w' => PutS16 W base Bl (xs ++ two true u) e w' := by
  obtain ⟨i0, hi, hz0, hz1, hz2⟩ := info_parts info5
  obtain ⟨v, hv, hown⟩ := hI
  have HV := Lib.hid hv
  have HO := Lib.hid hown
  have hc := hv.cell
  clear hv hown
  have hw0 : IntKind.u8.wrap u = u % 256 := by rw [IntKind.wrap_u8]
  have hw1 : IntKind.u8.wrap (u / 256) = u / 256 := by rw [IntKind.wrap_u8]; omega
  go_enter Tryz.func131, Tryz.ntmps131
  go_wp2_with (at_builtin; refine wpList_append_lies _ rfl _ _ _ rfl base 5 i0 _ 1 1 Tryz.underlying99 hi hz0 hz1 hz2 rfl (by omega) v xs.length (xs.map u8v) rfl (World.ownsRow.alloc HO.out _) ⟨W.heap.size, 0, none⟩ 2 2 [_, _] rfl rfl (World.news_of_block (t := 5) (fr := (0, 0)) (heap_alloc_new W _)) (by simp [Value.oneCell']) (by omega) (by unfold maxLen; omega) (by omega) (by simp; omega) (W.heap.size + 1) (by simp) ?_; intro g1 cap1 w1 hown1 hgrow1 hat1 hlt1; obtain ⟨⟨c1, f1⟩, t1, e1⟩ := put_eff HV.out HO.out hbase hBl hown1 hgrow1 rfl (by omega) (by omega) (by omega) (by omega); have T1 := Lib.hid t1; have E1 := Lib.hid e1; clear hown1 hgrow1 hat1 hlt1 t1 e1)
  go_end0
  exact ⟨rfl, T1.out, E1.out⟩
/-- The box Bl holds a number. -/
def CInv (W : World) (base Bl : Nat) (c : Nat) : Prop := Boxed W Bl 3 (.int .i64 (c : Int))
theorem scalarsBy_any (fn : Fn) (first cap : Array Value) (W : World) : Calls Tryz.prog 162 #[.func fn first cap] W fun e w' => e = .returned (.func (.func 180) #[] #[.pointer (some ⟨W.heap.size, 0, none⟩)]) ∧ w' = W.alloc (.cells #[.func fn first cap] 152) := by
  have hmf : ∀ (fn : Fn) (first cap : Array Value) (w : World), (Instr.makeFunc fn first cap).run Tryz.prog w = .ok (.func fn first cap) w := fun _ _ _ _ => rfl
  go_enter Tryz.func162, Tryz.ntmps162
  go_wp2_with fail
  go_ret
  exact ⟨rfl, rfl⟩
theorem sc_low (base Bl Bp : Nat) (xs : List UInt8) (r : Int) (W : World) (hbase : base ≤ W.heap.size) (hBl : base ≤ Bl) (hI : BInv W base Bl (xs)) (hp : Boxed W Bp 152 (.func (.func 130) #[.pointer (some ⟨Bl, 0, none⟩)] #[])) (hne : Bp ≠ Bl) (hlen : xs.length ≤ 90000) (hr : isB r = true) :
    Calls Tryz.prog 180 #[.int .i64 r, .pointer (some ⟨Bp, 0, none⟩)] W fun e w' => PutS16 W base Bl (xs ++ e16 false r) e w' := by
  have hb := isB_iff.1 hr
  have hc := hp.cell
  clear hr
  by_cases hr : r < 65536
  · have HP := Lib.hid (putLow_any base Bl xs r W hbase hBl hI (by omega) hb.1 hr)
    have HE : Hid ((xs ++ e16 false r) = xs ++ two false r) := Lib.hid (by rw [e16_1 false hr])
    clear hI hp
    go_enter Tryz.func180, Tryz.ntmps180
    go_wp2_with (go_at_call 130; refine HP.out.mono ?_; rintro e w1 ⟨rfl, hi1, he1⟩; have HI1 := Lib.hid hi1; have HE1 := Lib.hid he1; clear hi1 he1)
    go_end0
    (try go_wp2_with fail)
    (try go_end0)
    exact ⟨rfl, by rw [HE.out]; exact HI1.out, HE1.out⟩
  · have ho1 : bits .or .i64 55296 ((r - 65536) / 1024) = 55296 + (r - 65536) / 1024 := or10 _ _ (by omega) (by omega) (by omega) (by omega) (by omega)
    have ha1 : bits .and .i64 (r - 65536) 1023 = (r - 65536) % 1024 := and10 _ (by omega) (by omega)
    have ho2 : bits .or .i64 56320 ((r - 65536) % 1024) = 56320 + (r - 65536) % 1024 := or10 _ _ (by omega) (by omega) (by omega) (by omega) (by omega)
    have HP := Lib.hid (putLow_any base Bl xs (55296 + (r - 65536) / 1024) W hbase hBl hI (by omega) (by omega) (by omega))
    have HP2 : Hid (∀ w1, base ≤ w1.heap.size → BInv w1 base Bl (xs ++ two false (55296 + (r - 65536) / 1024)) → Calls Tryz.prog 130 #[.pointer (some ⟨Bl, 0, none⟩), .int .i64 (56320 + (r - 65536) % 1024)] w1 fun e w' => PutS16 w1 base Bl (xs ++ e16 false r) e w') := Lib.hid (fun w1 h1 h2 => by
      rw [e16_2 false (by omega), ← List.append_assoc]; exact putLow_any base Bl _ (56320 + (r - 65536) % 1024) w1 h1 hBl h2 (by rw [List.length_append, two_len]; omega) (by omega) (by omega))
    have HQ := Lib.hid hp
    clear hI hp
    go_enter Tryz.func180, Tryz.ntmps180
    go_wp2_with (first
      | (go_at_call 130; refine HP.out.mono ?_; rintro e w1 ⟨rfl, hi1, he1⟩; have HI1 := Lib.hid hi1; have HE1 := Lib.hid he1; have hc1 := (he1.box Bp 152 _ (by decide) hne HQ.out).cell; have hz1 : base ≤ w1.heap.size := (by have := he1.below.size; omega); clear hi1 he1 HP)
      | (go_at_call 130; refine (HP2.out _ hz1 HI1.out).mono ?_; rintro e w2 ⟨rfl, hi2, he2⟩; have HI2 := Lib.hid hi2; have HE2 := Lib.hid he2; clear hi2 he2))
    go_end0
    (try go_wp2_with (go_at_call 130; refine (HP2.out _ hz1 HI1.out).mono ?_; rintro e w2 ⟨rfl, hi2, he2⟩; have HI2 := Lib.hid hi2; have HE2 := Lib.hid he2; clear hi2 he2))
    (try go_end0)
    (try go_wp2_with fail)
    (try go_end0)
    exact ⟨rfl, HI2.out, HE1.out.trans HE2.out⟩
theorem sc_high (base Bl Bp : Nat) (xs : List UInt8) (r : Int) (W : World) (hbase : base ≤ W.heap.size) (hBl : base ≤ Bl) (hI : BInv W base Bl (xs)) (hp : Boxed W Bp 152 (.func (.func 131) #[.pointer (some ⟨Bl, 0, none⟩)] #[])) (hne : Bp ≠ Bl) (hlen : xs.length ≤ 90000) (hr : isB r = true) :
    Calls Tryz.prog 180 #[.int .i64 r, .pointer (some ⟨Bp, 0, none⟩)] W fun e w' => PutS16 W base Bl (xs ++ e16 true r) e w' := by
  have hb := isB_iff.1 hr
  have hc := hp.cell
  clear hr
  by_cases hr : r < 65536
  · have HP := Lib.hid (putHigh_any base Bl xs r W hbase hBl hI (by omega) hb.1 hr)
    have HE : Hid ((xs ++ e16 true r) = xs ++ two true r) := Lib.hid (by rw [e16_1 true hr])
    clear hI hp
    go_enter Tryz.func180, Tryz.ntmps180
    go_wp2_with (go_at_call 131; refine HP.out.mono ?_; rintro e w1 ⟨rfl, hi1, he1⟩; have HI1 := Lib.hid hi1; have HE1 := Lib.hid he1; clear hi1 he1)
    go_end0
    (try go_wp2_with fail)
    (try go_end0)
    exact ⟨rfl, by rw [HE.out]; exact HI1.out, HE1.out⟩
  · have ho1 : bits .or .i64 55296 ((r - 65536) / 1024) = 55296 + (r - 65536) / 1024 := or10 _ _ (by omega) (by omega) (by omega) (by omega) (by omega)
    have ha1 : bits .and .i64 (r - 65536) 1023 = (r - 65536) % 1024 := and10 _ (by omega) (by omega)
    have ho2 : bits .or .i64 56320 ((r - 65536) % 1024) = 56320 + (r - 65536) % 1024 := or10 _ _ (by omega) (by omega) (by omega) (by omega) (by omega)
    have HP := Lib.hid (putHigh_any base Bl xs (55296 + (r - 65536) / 1024) W hbase hBl hI (by omega) (by omega) (by omega))
    have HP2 : Hid (∀ w1, base ≤ w1.heap.size → BInv w1 base Bl (xs ++ two true (55296 + (r - 65536) / 1024)) → Calls Tryz.prog 131 #[.pointer (some ⟨Bl, 0, none⟩), .int .i64 (56320 + (r - 65536) % 1024)] w1 fun e w' => PutS16 w1 base Bl (xs ++ e16 true r) e w') := Lib.hid (fun w1 h1 h2 => by
      rw [e16_2 true (by omega), ← List.append_assoc]; exact putHigh_any base Bl _ (56320 + (r - 65536) % 1024) w1 h1 hBl h2 (by rw [List.length_append, two_len]; omega) (by omega) (by omega))
    have HQ := Lib.hid hp
    clear hI hp
    go_enter Tryz.func180, Tryz.ntmps180
    go_wp2_with (first
      | (go_at_call 131; refine HP.out.mono ?_; rintro e w1 ⟨rfl, hi1, he1⟩; have HI1 := Lib.hid hi1; have HE1 := Lib.hid he1; have hc1 := (he1.box Bp 152 _ (by decide) hne HQ.out).cell; have hz1 : base ≤ w1.heap.size := (by have := he1.below.size; omega); clear hi1 he1 HP)
      | (go_at_call 131; refine (HP2.out _ hz1 HI1.out).mono ?_; rintro e w2 ⟨rfl, hi2, he2⟩; have HI2 := Lib.hid hi2; have HE2 := Lib.hid he2; clear hi2 he2))
    go_end0
    (try go_wp2_with (go_at_call 131; refine (HP2.out _ hz1 HI1.out).mono ?_; rintro e w2 ⟨rfl, hi2, he2⟩; have HI2 := Lib.hid hi2; have HE2 := Lib.hid he2; clear hi2 he2))
    (try go_end0)
    (try go_wp2_with fail)
    (try go_end0)
    exact ⟨rfl, HI2.out, HE1.out.trans HE2.out⟩
end Go.Proofs.YtppabkllconkjaaGreatDoor.U
/- The contracts of utf16.putAll, Encode, Units. -/
namespace Go.Proofs.YtppabkllconkjaaGreatDoor.U
open Go.RowKit
set_option linter.unusedVariables false
set_option linter.unusedSimpArgs false
set_option maxRecDepth 100000
theorem BInv.below {W W' : World} {base Bl : Nat} {xs : List UInt8} (h : BInv W base Bl xs) (hb : Below W.heap.size W W') : BInv W' base Bl xs := by
  obtain ⟨v, h1, h2⟩ := h
  exact ⟨v, (hb.block _ h1.lt).trans h1, h2.kept (row := none) ⟨hb.os, hb.tape, hb.output, hb.size, fun j hj _ => hb.block j hj⟩ (by cases v.ownBlock <;> simp)⟩
theorem CInv.below {W W' : World} {base Bl : Nat} {c : Nat} (h : CInv W base Bl c) (hb : Below W.heap.size W W') : CInv W' base Bl c := (hb.block _ (Boxed.lt h)).trans h
theorem BInv.lt {W : World} {base Bl : Nat} {xs : List UInt8} (h : BInv W base Bl xs) : Bl < W.heap.size := by obtain ⟨v, h1, _⟩ := h; exact h1.lt
theorem CInv.lt {W : World} {base Bl : Nat} {c : Nat} (h : CInv W base Bl c) : Bl < W.heap.size := Boxed.lt h
def PA_low (W : World) (base Bl : Nat) (l : List UInt8) (e : Ending) (W' : World) : Prop := e = .returned (.bool (okB l)) ∧ BInv W' base Bl (es16 false (if okB l = true then scl l else [])) ∧ Below base W W'
set_option maxRecDepth 100000 in
set_option maxHeartbeats 2000000 in
theorem putAll_low (base Bl : Nat) (s : ByteArray) (W : World) (hg : Gl W) (hs : s.size ≤ 10000) (hbase : base ≤ W.heap.size) (hBl : base ≤ Bl) (hI : BInv W base Bl []) :
    Calls Tryz.prog 132 #[.string s, .func (.func 130) #[.pointer (some ⟨Bl, 0, none⟩)] #[]] W fun e w' => PA_low W base Bl s.data.toList e w' := by
  have hsz : s.data.toList.length = s.size := by simp
  have hsc := scal_any s W hg (by omega)
  obtain ⟨l, hl⟩ : ∃ l, s.data.toList = l := ⟨_, rfl⟩
  rw [hl] at hsz hsc ⊢
  clear hl
  have hlen := ok_or_len l (okB l) rfl
  have hall : allB (if okB l = true then scl l else []) = true := by
    cases h : okB l
    · rfl
    · rw [if_pos rfl]; exact (ok_back _ l (Nat.le_refl _) h).1
  unfold ScalS at hsc
  obtain ⟨c, hc⟩ : ∃ c, okB l = c := ⟨_, rfl⟩
  obtain ⟨ys, hys⟩ : ∃ ys, (if okB l = true then scl l else []) = ys := ⟨_, rfl⟩
  rw [hys] at hlen hall hsc
  have HE : Hid (∀ w', BInv w' base Bl (es16 false ys) → Below base W w' → PA_low W base Bl l (.returned (.bool c)) w') := Lib.hid (fun w' h1 h2 => ⟨by rw [hc], by rw [hys]; exact h1, h2⟩)
  rw [hc] at hsc
  clear hc hys hg
  have HSC := Lib.hid hsc
  have HI := Lib.hid hI
  have HBL := Lib.hid hI.lt
  clear hsc hI
  by_cases hx : ys = []
  · subst hx
    go_enter Tryz.func132, Tryz.ntmps132
    go_wp2_with (first
      | (go_at_call 161; refine HSC.out.mono ?_; rintro e w1 ⟨u, rfl, ho1, hb1⟩; have HB1 := Lib.hid hb1; obtain ⟨p1, cap1, rfl⟩ := (ints_of_own ho1).form; clear ho1 hb1)
      | (go_at_call 162; refine (scalarsBy_any _ _ _ _).mono ?_; rintro e w2 ⟨rfl, rfl⟩))
    refine wp_loop_rounds 1 ?_; rw [rounds_succ]
    go_wp2_with fail
    go_ret
    exact HE.out _ (HI.out.below (HB1.out.alloc HB1.out.size _)) (((HB1.out.mono hbase)).alloc (Nat.le_trans hbase HB1.out.size) _)
  · have hN0 : 0 < ys.length := List.length_pos_iff.2 hx
    obtain ⟨N, HN⟩ : ∃ N, Hid (ys.length = N) := ⟨_, Lib.hid rfl⟩
    have hN1 : 0 < N := by rw [← HN.out]; exact hN0
    have hN : N ≤ 10000 := by rw [← HN.out]; omega
    have HALL := Lib.hid hall
    have HSC2 : Hid (Calls Tryz.prog 161 #[.string s] W fun e w' => ∃ g cap, e = .returned (.tuple #[.slice (some ⟨g, 0, none⟩) N cap, .bool c]) ∧ OwnI w' W.heap.size (.slice (some ⟨g, 0, none⟩) N cap) ys ∧ Below W.heap.size W w') := Lib.hid (HSC.out.mono (by
      rintro e w' ⟨v, he, ho, hb⟩
      obtain ⟨g, cap, rfl, _⟩ := World.ownsRow.form ho hN0
      rw [HN.out] at he ho
      exact ⟨g, cap, he, ho, hb⟩))
    clear hx hN0 hlen hall HSC
    go_enter Tryz.func132, Tryz.ntmps132
    go_wp2_with (first
      | (go_at_call 161; refine HSC2.out.mono ?_; rintro e w1 ⟨g, cap, rfl, ho1, hb1⟩; have HB1 := Lib.hid hb1; have HO1 := Lib.hid ho1; clear ho1 hb1)
      | (go_at_call 162; refine (scalarsBy_any _ _ _ _).mono ?_; rintro e w2 ⟨rfl, hw2⟩; have HW2 := Lib.hid hw2; clear hw2))
    have HI2 : Hid (BInv w2 base Bl []) := Lib.hid (by rw [HW2.out]; exact HI.out.below (HB1.out.alloc HB1.out.size _))
    have HB2 : Hid (Below base W w2) := Lib.hid (by rw [HW2.out]; exact ((HB1.out.mono hbase)).alloc (Nat.le_trans hbase HB1.out.size) _)
    have HP2 : Hid (Boxed w2 w1.heap.size 152 (.func (.func 130) #[.pointer (some ⟨Bl, 0, none⟩)] #[])) := Lib.hid (by rw [HW2.out]; exact Boxed.new _ _ _)
    have HO2 : Hid (OwnI w2 W.heap.size (.slice (some ⟨g, 0, none⟩) N cap) ys) := Lib.hid (by rw [HW2.out]; exact World.ownsRow.alloc HO1.out _)
    have hne : w1.heap.size ≠ Bl := by have := HB1.out.size; have := HBL.out; omega
    go_loopg [19] (N + 1) (fun gg q19 wr => ∃ (k : Nat), k + gg = N + 1 ∧ q19 = .int .i64 k ∧ k ≤ N ∧ Hid (BInv wr base Bl (es16 false (ys.take k))) ∧ Hid (Boxed wr w1.heap.size 152 (.func (.func 130) #[.pointer (some ⟨Bl, 0, none⟩)] #[])) ∧ Hid (OwnI wr W.heap.size (.slice (some ⟨g, 0, none⟩) N cap) ys) ∧ Hid (Below base W wr))
    case atStart => exact ⟨0, by omega, rfl, by omega, HI2, HP2, HO2, HB2⟩
    case round =>
      obtain ⟨k, hkg, rfl, hkN, HIr, HPr, HOr, HBr⟩ := hrel
      have hwz := HBr.out.size
      by_cases hk : k < N
      · have hk' : k < ys.length := by rw [HN.out]; exact hk
        have hcell : wr.cell? ⟨g, k, none⟩ = some (.int .i64 ys[k]) := (own_cells HOr.out).2 k hk'
        have hf : (es16 false (ys.take k)).length ≤ 4 * k := by
          have := es16_few false (ys.take k); have := List.length_take_le k ys; omega
        have HX : Hid (es16 false (ys.take (k + 1)) = es16 false (ys.take k) ++ e16 false ys[k]) := Lib.hid (es16_take false hk')
        have hb := all_get HALL.out hk'
        obtain ⟨r, hr⟩ : ∃ r, ys[k] = r := ⟨_, rfl⟩
        rw [hr] at hcell hb
        have HC := Lib.hid (sc_low base Bl w1.heap.size (es16 false (ys.take k)) r wr (by omega) hBl HIr.out HPr.out hne (by omega) hb)
        have HX2 : Hid (es16 false (ys.take (k + 1)) = es16 false (ys.take k) ++ e16 false r) := Lib.hid (by rw [HX.out, hr])
        clear HX hr hk' hb
        go_wp2_with (go_at_call 180; refine HC.out.mono ?_; rintro e w3 ⟨rfl, hi3, he3⟩; have HI3 : Hid (BInv w3 base Bl (es16 false (ys.take (k + 1)))) := Lib.hid (by rw [HX2.out]; exact hi3); have HP3 := Lib.hid (he3.box _ _ _ (by decide) hne HPr.out); have HO3 : Hid (OwnI w3 W.heap.size (.slice (some ⟨g, 0, none⟩) N cap) ys) := Lib.hid (he3.row _ _ _ _ HBL.out HOr.out); have HB3 := Lib.hid (HBr.out.trans he3.below); clear hi3 he3)
        (try go_end0)
        (try go_wp2_with fail)
        go_roundg (gk - 1)
        case measure => omega
        case rel => exact ⟨k + 1, by omega, by go_num, by omega, HI3, HP3, HO3, HB3⟩
      · have HIe : Hid (BInv wr base Bl (es16 false ys)) := Lib.hid (by
          have := HIr.out
          rwa [List.take_of_length_le (by rw [HN.out]; omega)] at this)
        go_wp2_with fail
        go_ret
        exact HE.out _ HIe.out HBr.out
def PA_high (W : World) (base Bl : Nat) (l : List UInt8) (e : Ending) (W' : World) : Prop := e = .returned (.bool (okB l)) ∧ BInv W' base Bl (es16 true (if okB l = true then scl l else [])) ∧ Below base W W'
set_option maxRecDepth 100000 in
set_option maxHeartbeats 2000000 in
theorem putAll_high (base Bl : Nat) (s : ByteArray) (W : World) (hg : Gl W) (hs : s.size ≤ 10000) (hbase : base ≤ W.heap.size) (hBl : base ≤ Bl) (hI : BInv W base Bl []) :
    Calls Tryz.prog 132 #[.string s, .func (.func 131) #[.pointer (some ⟨Bl, 0, none⟩)] #[]] W fun e w' => PA_high W base Bl s.data.toList e w' := by
  have hsz : s.data.toList.length = s.size := by simp
  have hsc := scal_any s W hg (by omega)
  obtain ⟨l, hl⟩ : ∃ l, s.data.toList = l := ⟨_, rfl⟩
  rw [hl] at hsz hsc ⊢
  clear hl
  have hlen := ok_or_len l (okB l) rfl
  have hall : allB (if okB l = true then scl l else []) = true := by
    cases h : okB l
    · rfl
    · rw [if_pos rfl]; exact (ok_back _ l (Nat.le_refl _) h).1
  unfold ScalS at hsc
  obtain ⟨c, hc⟩ : ∃ c, okB l = c := ⟨_, rfl⟩
  obtain ⟨ys, hys⟩ : ∃ ys, (if okB l = true then scl l else []) = ys := ⟨_, rfl⟩
  rw [hys] at hlen hall hsc
  have HE : Hid (∀ w', BInv w' base Bl (es16 true ys) → Below base W w' → PA_high W base Bl l (.returned (.bool c)) w') := Lib.hid (fun w' h1 h2 => ⟨by rw [hc], by rw [hys]; exact h1, h2⟩)
  rw [hc] at hsc
  clear hc hys hg
  have HSC := Lib.hid hsc
  have HI := Lib.hid hI
  have HBL := Lib.hid hI.lt
  clear hsc hI
  by_cases hx : ys = []
  · subst hx
    go_enter Tryz.func132, Tryz.ntmps132
    go_wp2_with (first
      | (go_at_call 161; refine HSC.out.mono ?_; rintro e w1 ⟨u, rfl, ho1, hb1⟩; have HB1 := Lib.hid hb1; obtain ⟨p1, cap1, rfl⟩ := (ints_of_own ho1).form; clear ho1 hb1)
      | (go_at_call 162; refine (scalarsBy_any _ _ _ _).mono ?_; rintro e w2 ⟨rfl, rfl⟩))
    refine wp_loop_rounds 1 ?_; rw [rounds_succ]
    go_wp2_with fail
    go_ret
    exact HE.out _ (HI.out.below (HB1.out.alloc HB1.out.size _)) (((HB1.out.mono hbase)).alloc (Nat.le_trans hbase HB1.out.size) _)
  · have hN0 : 0 < ys.length := List.length_pos_iff.2 hx
    obtain ⟨N, HN⟩ : ∃ N, Hid (ys.length = N) := ⟨_, Lib.hid rfl⟩
    have hN1 : 0 < N := by rw [← HN.out]; exact hN0
    have hN : N ≤ 10000 := by rw [← HN.out]; omega
    have HALL := Lib.hid hall
    have HSC2 : Hid (Calls Tryz.prog 161 #[.string s] W fun e w' => ∃ g cap, e = .returned (.tuple #[.slice (some ⟨g, 0, none⟩) N cap, .bool c]) ∧ OwnI w' W.heap.size (.slice (some ⟨g, 0, none⟩) N cap) ys ∧ Below W.heap.size W w') := Lib.hid (HSC.out.mono (by
      rintro e w' ⟨v, he, ho, hb⟩
      obtain ⟨g, cap, rfl, _⟩ := World.ownsRow.form ho hN0
      rw [HN.out] at he ho
      exact ⟨g, cap, he, ho, hb⟩))
    clear hx hN0 hlen hall HSC
    go_enter Tryz.func132, Tryz.ntmps132
    go_wp2_with (first
      | (go_at_call 161; refine HSC2.out.mono ?_; rintro e w1 ⟨g, cap, rfl, ho1, hb1⟩; have HB1 := Lib.hid hb1; have HO1 := Lib.hid ho1; clear ho1 hb1)
      | (go_at_call 162; refine (scalarsBy_any _ _ _ _).mono ?_; rintro e w2 ⟨rfl, hw2⟩; have HW2 := Lib.hid hw2; clear hw2))
    have HI2 : Hid (BInv w2 base Bl []) := Lib.hid (by rw [HW2.out]; exact HI.out.below (HB1.out.alloc HB1.out.size _))
    have HB2 : Hid (Below base W w2) := Lib.hid (by rw [HW2.out]; exact ((HB1.out.mono hbase)).alloc (Nat.le_trans hbase HB1.out.size) _)
    have HP2 : Hid (Boxed w2 w1.heap.size 152 (.func (.func 131) #[.pointer (some ⟨Bl, 0, none⟩)] #[])) := Lib.hid (by rw [HW2.out]; exact Boxed.new _ _ _)
    have HO2 : Hid (OwnI w2 W.heap.size (.slice (some ⟨g, 0, none⟩) N cap) ys) := Lib.hid (by rw [HW2.out]; exact World.ownsRow.alloc HO1.out _)
    have hne : w1.heap.size ≠ Bl := by have := HB1.out.size; have := HBL.out; omega
    go_loopg [19] (N + 1) (fun gg q19 wr => ∃ (k : Nat), k + gg = N + 1 ∧ q19 = .int .i64 k ∧ k ≤ N ∧ Hid (BInv wr base Bl (es16 true (ys.take k))) ∧ Hid (Boxed wr w1.heap.size 152 (.func (.func 131) #[.pointer (some ⟨Bl, 0, none⟩)] #[])) ∧ Hid (OwnI wr W.heap.size (.slice (some ⟨g, 0, none⟩) N cap) ys) ∧ Hid (Below base W wr))
    case atStart => exact ⟨0, by omega, rfl, by omega, HI2, HP2, HO2, HB2⟩
    case round =>
      obtain ⟨k, hkg, rfl, hkN, HIr, HPr, HOr, HBr⟩ := hrel
      have hwz := HBr.out.size
      by_cases hk : k < N
      · have hk' : k < ys.length := by rw [HN.out]; exact hk
        have hcell : wr.cell? ⟨g, k, none⟩ = some (.int .i64 ys[k]) := (own_cells HOr.out).2 k hk'
        have hf : (es16 true (ys.take k)).length ≤ 4 * k := by
          have := es16_few true (ys.take k); have := List.length_take_le k ys; omega
        have HX : Hid (es16 true (ys.take (k + 1)) = es16 true (ys.take k) ++ e16 true ys[k]) := Lib.hid (es16_take true hk')
        have hb := all_get HALL.out hk'
        obtain ⟨r, hr⟩ : ∃ r, ys[k] = r := ⟨_, rfl⟩
        rw [hr] at hcell hb
        have HC := Lib.hid (sc_high base Bl w1.heap.size (es16 true (ys.take k)) r wr (by omega) hBl HIr.out HPr.out hne (by omega) hb)
        have HX2 : Hid (es16 true (ys.take (k + 1)) = es16 true (ys.take k) ++ e16 true r) := Lib.hid (by rw [HX.out, hr])
        clear HX hr hk' hb
        go_wp2_with (go_at_call 180; refine HC.out.mono ?_; rintro e w3 ⟨rfl, hi3, he3⟩; have HI3 : Hid (BInv w3 base Bl (es16 true (ys.take (k + 1)))) := Lib.hid (by rw [HX2.out]; exact hi3); have HP3 := Lib.hid (he3.box _ _ _ (by decide) hne HPr.out); have HO3 : Hid (OwnI w3 W.heap.size (.slice (some ⟨g, 0, none⟩) N cap) ys) := Lib.hid (he3.row _ _ _ _ HBL.out HOr.out); have HB3 := Lib.hid (HBr.out.trans he3.below); clear hi3 he3)
        (try go_end0)
        (try go_wp2_with fail)
        go_roundg (gk - 1)
        case measure => omega
        case rel => exact ⟨k + 1, by omega, by go_num, by omega, HI3, HP3, HO3, HB3⟩
      · have HIe : Hid (BInv wr base Bl (es16 true ys)) := Lib.hid (by
          have := HIr.out
          rwa [List.take_of_length_le (by rw [HN.out]; omega)] at this)
        go_wp2_with fail
        go_ret
        exact HE.out _ HIe.out HBr.out
set_option maxHeartbeats 1000000 in
theorem encode_low (s : ByteArray) (w : World) (hg : Gl w) (hs : s.size ≤ 10000) : Calls Tryz.prog 98 #[.string s, .bool false] w fun e w' => Enc16S w false s.data.toList e w' := by
  have hmf : ∀ (fn : Fn) (first cap : Array Value) (w : World), (Instr.makeFunc fn first cap).run Tryz.prog w = .ok (.func fn first cap) w := fun _ _ _ _ => rfl
  have hp := putAll_low w.heap.size w.heap.size s (w.alloc (.cells #[.slice none 0 0] 151)) (hg.alloc _) hs (by simp) (Nat.le_refl _) ⟨.slice none 0 0, Boxed.new _ _ _, own_nil _ _⟩
  obtain ⟨l, hl⟩ : ∃ l, s.data.toList = l := ⟨_, rfl⟩
  rw [hl] at hp ⊢
  clear hl hg
  unfold PA_low at hp
  have HB0 : Hid (∀ w1, Below w.heap.size (w.alloc (.cells #[.slice none 0 0] 151)) w1 → Below w.heap.size w w1) := Lib.hid (fun w1 h => ((Below.refl _ w).alloc (Nat.le_refl _) _).trans h)
  cases hok : okB l
  · have HE : Hid (∀ w1, Below w.heap.size w w1 → Enc16S w false l (.returned (.tuple #[.string ⟨#[]⟩, .int .i64 70])) w1) := Lib.hid (fun w1 hb => enc16_bad hok hb)
    rw [hok] at hp
    have HP := Lib.hid hp
    clear hp hok
    go_enter Tryz.func98, Tryz.ntmps98
    go_wp2_with (go_at_call 132; refine HP.out.mono ?_; rintro e w1 ⟨rfl, _, hb1⟩; have HB1 := Lib.hid hb1; clear hb1)
    go_ret2
    exact HE.out _ (HB0.out _ HB1.out)
  · have HE : Hid (∀ w1, Below w.heap.size w w1 → Enc16S w false l (.returned (.tuple #[.string (str (es16 false (scl l))), .int .i64 0])) w1) := Lib.hid (fun w1 hb => enc16_good hok hb)
    rw [hok] at hp
    simp only [reduceIte] at hp
    have HP := Lib.hid hp
    clear hp hok
    go_enter Tryz.func98, Tryz.ntmps98
    go_wp2_with (go_at_call 132; refine HP.out.mono ?_; rintro e w1 ⟨rfl, ⟨v, hv, ho⟩, hb1⟩; have HB1 := Lib.hid hb1; have hc1 := hv.cell; have hconv := conv_own ho; obtain ⟨p1, cap1, rfl⟩ := own_form ho; clear hb1 hv ho)
    go_ret2
    exact HE.out _ (HB0.out _ HB1.out)
set_option maxHeartbeats 1000000 in
theorem encode_high (s : ByteArray) (w : World) (hg : Gl w) (hs : s.size ≤ 10000) : Calls Tryz.prog 98 #[.string s, .bool true] w fun e w' => Enc16S w true s.data.toList e w' := by
  have hmf : ∀ (fn : Fn) (first cap : Array Value) (w : World), (Instr.makeFunc fn first cap).run Tryz.prog w = .ok (.func fn first cap) w := fun _ _ _ _ => rfl
  have hp := putAll_high w.heap.size w.heap.size s (w.alloc (.cells #[.slice none 0 0] 151)) (hg.alloc _) hs (by simp) (Nat.le_refl _) ⟨.slice none 0 0, Boxed.new _ _ _, own_nil _ _⟩
  obtain ⟨l, hl⟩ : ∃ l, s.data.toList = l := ⟨_, rfl⟩
  rw [hl] at hp ⊢
  clear hl hg
  unfold PA_high at hp
  have HB0 : Hid (∀ w1, Below w.heap.size (w.alloc (.cells #[.slice none 0 0] 151)) w1 → Below w.heap.size w w1) := Lib.hid (fun w1 h => ((Below.refl _ w).alloc (Nat.le_refl _) _).trans h)
  cases hok : okB l
  · have HE : Hid (∀ w1, Below w.heap.size w w1 → Enc16S w true l (.returned (.tuple #[.string ⟨#[]⟩, .int .i64 70])) w1) := Lib.hid (fun w1 hb => enc16_bad hok hb)
    rw [hok] at hp
    have HP := Lib.hid hp
    clear hp hok
    go_enter Tryz.func98, Tryz.ntmps98
    go_wp2_with (go_at_call 132; refine HP.out.mono ?_; rintro e w1 ⟨rfl, _, hb1⟩; have HB1 := Lib.hid hb1; clear hb1)
    go_ret2
    exact HE.out _ (HB0.out _ HB1.out)
  · have HE : Hid (∀ w1, Below w.heap.size w w1 → Enc16S w true l (.returned (.tuple #[.string (str (es16 true (scl l))), .int .i64 0])) w1) := Lib.hid (fun w1 hb => enc16_good hok hb)
    rw [hok] at hp
    simp only [reduceIte] at hp
    have HP := Lib.hid hp
    clear hp hok
    go_enter Tryz.func98, Tryz.ntmps98
    go_wp2_with (go_at_call 132; refine HP.out.mono ?_; rintro e w1 ⟨rfl, ⟨v, hv, ho⟩, hb1⟩; have HB1 := Lib.hid hb1; have hc1 := hv.cell; have hconv := conv_own ho; obtain ⟨p1, cap1, rfl⟩ := own_form ho; clear hb1 hv ho)
    go_ret2
    exact HE.out _ (HB0.out _ HB1.out)
theorem encode_any (s : ByteArray) (big : Bool) (w : World) (hg : Gl w) (hs : s.size ≤ 10000) : Calls Tryz.prog 98 #[.string s, .bool big] w fun e w' => Enc16S w big s.data.toList e w' := by
  cases big
  · exact encode_low s w hg hs
  · exact encode_high s w hg hs
end Go.Proofs.YtppabkllconkjaaGreatDoor.U
