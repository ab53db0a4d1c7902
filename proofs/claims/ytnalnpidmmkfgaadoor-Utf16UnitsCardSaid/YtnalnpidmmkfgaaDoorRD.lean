/- The contract of the document's own Decode of layer 3. -/
import Derived.Test.YtnalnpidmmkfgaaDoorO
namespace Go.Proofs.YtnalnpidmmkfgaaDoor
open Go.RowKit
set_option linter.unusedVariables false
set_option linter.unusedSimpArgs false
/-- Two slices of numbers of the call's own, in blocks apart. -/
structure TwoOwn (W : World) (n₀ : Nat) (xs ys : List Int) (u v : Value) : Prop where
  ra : W.ownsRow n₀ 3 1 u xs.length (xs.map (Value.int .i64))
  rb : W.ownsRow n₀ 3 1 v ys.length (ys.map (Value.int .i64))
  ne : ∀ g, u.ownBlock = some g → v.ownBlock ≠ some g
theorem TwoOwn.symm {W : World} {n₀ : Nat} {xs ys : List Int} {u v : Value} (h : TwoOwn W n₀ xs ys u v) : TwoOwn W n₀ ys xs v u :=
  ⟨h.rb, h.ra, fun g e e2 => h.ne g e2 e⟩
theorem TwoOwn.start (W : World) (n₀ : Nat) : TwoOwn W n₀ [] [] (.slice none 0 0) (.slice none 0 0) := ⟨World.ownsRow_nil _ _ _ _, World.ownsRow_nil _ _ _ _, fun g e => by cases e⟩
theorem TwoOwn.drew {W W' : World} {n₀ : Nat} {xs ys : List Int} {u v : Value} (h : TwoOwn W n₀ xs ys u v) (hd : Drew W W') : TwoOwn W' n₀ xs ys u v :=
  ⟨h.ra.kept (hd.grown none) (by cases u.ownBlock <;> simp), h.rb.kept (hd.grown none) (by cases v.ownBlock <;> simp), h.ne⟩
theorem TwoOwn.app {W w1 : World} {n₀ : Nat} {xs ys : List Int} {u v : Value} (h : TwoOwn W n₀ xs ys u v) (hn₀ : n₀ ≤ W.heap.size) {tmp : Obj} {g cap : Nat} {y : Int}
    (hown : w1.ownsRow n₀ 3 1 (.slice (some ⟨g, 0, none⟩) (ys.length + 1) cap) (ys.length + 1) (ys.map (Value.int .i64) ++ [.int .i64 y]))
    (hgrow : (W.alloc tmp).grownBy w1 v.ownBlock) (hat : v.ownBlock = some g ∨ g = W.heap.size + 1) :
    TwoOwn w1 n₀ xs (ys ++ [y]) u (.slice (some ⟨g, 0, none⟩) (ys.length + 1) cap) ∧ Below n₀ W w1 := by
  refine ⟨⟨(h.ra.alloc tmp).kept hgrow ?_, by rw [List.length_append, List.map_append]; exact hown, ?_⟩, ?_⟩
  · cases hu : u.ownBlock with
    | none => exact .inl rfl
    | some k => exact .inr (fun e => h.ne k hu e.symm)
  · intro k hk e
    have : g = k := by simpa [Value.ownBlock] using e
    subst this
    rcases hat with h1 | h1
    · exact h.ne g hk h1
    · have := (World.ownsRow.lt h.ra g hk).2
      omega
  · exact ((Below.refl n₀ W).alloc hn₀ tmp).grown hgrow (by simp; omega) (fun j e => (World.ownsRow.lt h.rb j e).1)
/-- Where the walk over bytes stands: behind a of them, xs having been told, ys being the places of what was wrong. -/
structure DAt (big : Bool) (l : List UInt8) (a : Nat) (xs ys : List Int) : Prop where
  le : a ≤ l.length
  few : xs.length ≤ a
  few2 : ys.length ≤ a
  x : x16 big l = xs ++ x16 big (l.drop a)
  b : b16 big l = ys ++ bds (p16 big (l.drop a)) a
theorem DAt.start (big : Bool) (l : List UInt8) : DAt big l 0 [] [] := ⟨Nat.zero_le _, Nat.le_refl _, Nat.le_refl _, by simp, by simp [b16]⟩
theorem DAt.bad {big : Bool} {l : List UInt8} {a : Nat} {xs ys : List Int} (h : DAt big l a xs ys) (hl : a < l.length) {n : Nat} (hd : d16 big (l.drop a) = (-1, n)) : DAt big l (a + n) (xs ++ [65533]) (ys ++ [(a : Int)]) := by
  have hne := drop_ne hl
  have h1 := (d16_pos big (l.drop a)).1
  have h2 := d16_le big hne
  rw [hd] at h1 h2
  simp only [List.length_drop] at h1 h2
  refine ⟨by omega, by simp; have := h.few; omega, by simp; have := h.few2; omega, ?_, ?_⟩
  · rw [h.x, x16_cons big hne, hd, List.drop_drop]; simp [fixR]
  · rw [h.b, p16_cons big hne, hd, bds_bad rfl, List.drop_drop]; simp
theorem DAt.good {big : Bool} {l : List UInt8} {a : Nat} {xs ys : List Int} (h : DAt big l a xs ys) (hl : a < l.length) {n : Nat} {r : Int} (hd : d16 big (l.drop a) = (r, n)) (hr : r ≠ -1) : DAt big l (a + n) (xs ++ [r]) ys := by
  have hne := drop_ne hl
  have h1 := (d16_pos big (l.drop a)).1
  have h2 := d16_le big hne
  rw [hd] at h1 h2
  simp only [List.length_drop] at h1 h2
  refine ⟨by omega, by simp; have := h.few; omega, by have := h.few2; omega, ?_, ?_⟩
  · rw [h.x, x16_cons big hne, hd, List.drop_drop]; simp [fixR, hr]
  · rw [h.b, p16_cons big hne, hd, bds_good hr, List.drop_drop]
theorem DAt.done {big : Bool} {l : List UInt8} {a : Nat} {xs ys : List Int} (h : DAt big l a xs ys) (hl : ¬ a < l.length) : x16 big l = xs ∧ b16 big l = ys := by
  have e : l.drop a = [] := List.drop_eq_nil_of_le (by omega)
  have h1 := h.x
  have h2 := h.b
  rw [e] at h1 h2
  exact ⟨by simpa [x16, s16, p16_nil] using h1, by simpa [p16_nil, bds] using h2⟩
theorem dec16_end {w wr w1 : World} {big : Bool} {l : List UInt8} {xs ys : List Int} {u v : Value} {a : Nat} (hD : DAt big l a xs ys) (hl : ¬ a < l.length) (hT : TwoOwn wr w.heap.size xs ys u v) (hB : Below w.heap.size w wr) (hb : Below wr.heap.size wr w1) :
    Dec16S w big l (.returned (.tuple #[.string (str (encs xs)), v])) w1 := by
  obtain ⟨h1, h2⟩ := hD.done hl
  refine ⟨v, by unfold t16; rw [h1], ?_, hB.trans (hb.mono hB.size)⟩
  rw [h2]
  exact hT.rb.kept (row := none) ⟨hb.os, hb.tape, hb.output, hb.size, fun j hj _ => hb.block j hj⟩ (by cases v.ownBlock <;> simp)
theorem dec16_text {wr : World} {n₀ : Nat} {big : Bool} {l : List UInt8} {xs ys : List Int} {u v : Value} {a : Nat} (hD : DAt big l a xs ys) (hl : ¬ a < l.length) (hs : l.length ≤ 10000) (hT : TwoOwn wr n₀ xs ys u v) :
    Calls Tryd.prog 25 #[u] wr fun e w' => e = .returned (.tuple #[.string (str (encs xs)), .bool true]) ∧ Below wr.heap.size wr w' := by
  obtain ⟨h1, h2⟩ := hD.done hl
  have h3 : allB xs = true := by rw [← h1]; exact x16_all _ _
  have := rtext_any u xs wr (ints_of_own hT.ra) (by have := hD.few; have := hD.le; omega)
  unfold TextS at this
  rwa [h3, if_pos rfl] at this
set_option maxRecDepth 100000 in
set_option maxHeartbeats 4000000 in
theorem rdecode_any (s : ByteArray) (big : Bool) (w : World) (hs : s.size ≤ 10000) : Calls Tryd.prog 10 #[.string s, .bool big] w fun e w' => Dec16S w big s.data.toList e w' := by
  obtain ⟨i0, hi, hz0, hz1, hz2⟩ := info_parts info3
  have hsz : s.data.toList.length = s.size := by simp
  obtain ⟨l, HL⟩ : ∃ l, Hid (s.data.toList = l) := ⟨_, Lib.hid rfl⟩
  have HSZ : Hid (l.length = s.size) := Lib.hid (by rw [← HL.out]; exact hsz)
  have HSL : Hid (l.length ≤ 10000) := Lib.hid (by rw [HSZ.out]; exact hs)
  rw [HL.out]
  clear hsz
  go_enter Tryd.func10, Tryd.ntmps10
  go_wp2_with fail
  go_loopg [6, 7, 8] (s.size + 1) (fun g q6 q7 q8 wr => ∃ (u v : Value) (a : Nat) (xs ys : List Int), u = q6 ∧ v = q7 ∧ a + g = s.size + 1 ∧ q8 = .int .i64 a ∧ Hid (DAt big l a xs ys) ∧ Hid (TwoOwn wr w.heap.size xs ys q6 q7) ∧ Hid (Below w.heap.size w wr))
  case atStart => exact ⟨_, _, 0, [], [], rfl, rfl, by omega, rfl, Lib.hid (DAt.start _ _), Lib.hid (TwoOwn.start _ _), Lib.hid (Below.refl _ _)⟩
  case round =>
    obtain ⟨u, v, a, xs, ys, rfl, rfl, hag, rfl, HA, HT, HB⟩ := hrel
    have hwz := HB.out.size
    have hale : a ≤ s.size := by have := HA.out.le; rw [HSZ.out] at this; exact this
    have hxl : xs.length ≤ a := HA.out.few
    have hyl : ys.length ≤ a := HA.out.few2
    have HBb : Hid (∀ x, Below w.heap.size wr x → Below w.heap.size w x) := Lib.hid (fun x h => HB.out.trans h)
    by_cases hlt : a < s.size
    rotate_left 1
    · have hl : ¬ a < l.length := by rw [HSZ.out]; exact hlt
      have HTx := Lib.hid (dec16_text HA.out hl HSL.out HT.out)
      have HE : Hid (∀ w1, Below wr.heap.size wr w1 → Dec16S w big l (.returned (.tuple #[.string (str (encs xs)), v])) w1) := Lib.hid (fun w1 hb => dec16_end HA.out hl HT.out HB.out hb)
      clear hl
      go_wp2_with (go_at_call 25; refine HTx.out.mono ?_; rintro e w1 ⟨rfl, hb1⟩; have HB1 := Lib.hid hb1; clear hb1)
      go_ret2
      exact HE.out _ HB1.out
    have hll : a < l.length := by rw [HSZ.out]; exact hlt
    have HLL := Lib.hid hll
    clear hll
    by_cases h1 : a + 1 = s.size
    · have HS := Lib.hid (HA.out.bad HLL.out (n := 1) (by rw [← HL.out, drop_last s a h1]; rfl))
      have hd0 : ((a : Int) + 1 == (s.size : Int)) = true := by simp; omega
      have hl : ¬ a + 1 < l.length := by rw [HSZ.out]; omega
      have HNL := Lib.hid hl
      clear hl
      go_wp2_with (first
        | (at_builtin; refine wpList_append_lies _ rfl _ _ _ rfl w.heap.size 3 i0 _ 1 8 Tryd.underlying23 hi hz0 hz1 hz2 rfl (by omega) u xs.length (xs.map (Value.int .i64)) rfl (World.ownsRow.alloc (HT.out).ra _) ⟨wr.heap.size, 0, none⟩ 1 1 [_] rfl rfl (cell_one_new _ _ _) (by simp [Value.oneCell']) (by omega) (by unfold maxLen; omega) (by omega) (by simp; omega) (wr.heap.size + 1) (by simp) ?_; intro g4 cap4 x4 hown4 hgrow4 hat4 hlt4; obtain ⟨t, b⟩ := (HT.out).symm.app (by omega) hown4 hgrow4 hat4; have HT4 := Lib.hid (TwoOwn.symm t); have BB4 := Lib.hid b; have bz4 := b.size; clear hown4 hgrow4 hat4 t b)
        | (at_builtin; refine wpList_append_lies _ rfl _ _ _ rfl w.heap.size 3 i0 _ 1 8 Tryd.underlying23 hi hz0 hz1 hz2 rfl (by omega) v ys.length (ys.map (Value.int .i64)) rfl (World.ownsRow.alloc (HT4.out).rb _) ⟨x4.heap.size, 0, none⟩ 1 1 [_] rfl rfl (cell_one_new _ _ _) (by simp [Value.oneCell']) (by omega) (by unfold maxLen; omega) (by omega) (by simp; omega) (x4.heap.size + 1) (by simp) ?_; intro g5 cap5 x5 hown5 hgrow5 hat5 hlt5; obtain ⟨t, b⟩ := (HT4.out).app (by omega) hown5 hgrow5 hat5; have HT5 := Lib.hid t; have BB5 := Lib.hid b; have bz5 := b.size; clear hown5 hgrow5 hat5 t b)
        | (go_at_call 25; refine (dec16_text HS.out HNL.out HSL.out HT5.out).mono ?_; rintro e w6 ⟨rfl, hb6⟩; have HB6 := Lib.hid hb6; clear hb6))
      go_ret2
      exact dec16_end HS.out HNL.out HT5.out ((HB.out.trans BB4.out).trans BB5.out) HB6.out
    have h2 : a + 1 < s.size := by omega
    have hd0 : ((a : Int) + 1 == (s.size : Int)) = false := by simp; omega
    have HX : Hid (l.drop a = s[a] :: s[a + 1] :: l.drop (a + 2)) := Lib.hid (by rw [← HL.out]; exact drop_two s a h2)
    have hlt1 := un_lt big s[a] s[a + 1]
    have hU : ∀ w1, Calls Tryd.prog 22 #[.string s, .int .i64 a, .bool big] w1 fun e w' => UnitS s a big (un big s[a] s[a + 1]) w1 e w' := fun w1 => runit_any s a big w1 h2 (by omega)
    obtain ⟨n, hn⟩ : ∃ u, un big s[a] s[a + 1] = u := ⟨_, rfl⟩
    rw [hn] at hlt1
    simp only [hn] at hU
    have HU := Lib.hid hU
    have HQ := Lib.hid hn
    clear hU hn
    obtain ⟨hb, hhb⟩ : ∃ b, hiB n = b := ⟨_, rfl⟩
    obtain ⟨lb, hlb⟩ : ∃ b, loB n = b := ⟨_, rfl⟩
    have HH : Hid (∀ w1, Calls Tryd.prog 23 #[.int .i64 n] w1 fun e w' => e = .returned (.bool hb) ∧ w1 = w') := Lib.hid (fun w1 => by have := rhigh_any n w1; rwa [hhb] at this)
    have HL1 : Hid (∀ w1, Calls Tryd.prog 24 #[.int .i64 n] w1 fun e w' => e = .returned (.bool lb) ∧ w1 = w') := Lib.hid (fun w1 => by have := rlow_any n w1; rwa [hlb] at this)
    have HHB := Lib.hid hhb
    have HLB := Lib.hid hlb
    clear hhb hlb
    cases hb
    · cases lb
      · have HS := Lib.hid (HA.out.good HLL.out (n := 2) (r := n) (by rw [HX.out, ← HQ.out]; exact d16_un (by rw [HQ.out]; exact HLB.out) (by rw [HQ.out]; exact HHB.out) _) (by omega))
        go_wp2_with (first
        | (go_at_call 22; refine (HU.out _).mono ?_; rintro e w1 ⟨rfl, hd1⟩; have HD1 := Lib.hid hd1; have dz1 : w.heap.size ≤ w1.heap.size := (by have := (HD1.out).below 0 |>.size; omega); clear hd1 HU)
        | (go_at_call 23; refine (HH.out _).mono ?_; rintro e w' ⟨rfl, rfl⟩)
        | (go_at_call 24; refine (HL1.out _).mono ?_; rintro e w' ⟨rfl, rfl⟩)
        | (at_builtin; refine wpList_append_lies _ rfl _ _ _ rfl w.heap.size 3 i0 _ 1 8 Tryd.underlying23 hi hz0 hz1 hz2 rfl (by omega) u xs.length (xs.map (Value.int .i64)) rfl (World.ownsRow.alloc (HT.out.drew HD1.out).ra _) ⟨w1.heap.size, 0, none⟩ 1 1 [_] rfl rfl (cell_one_new _ _ _) (by simp [Value.oneCell']) (by omega) (by unfold maxLen; omega) (by omega) (by simp; omega) (w1.heap.size + 1) (by simp) ?_; intro g4 cap4 x4 hown4 hgrow4 hat4 hlt4; obtain ⟨t, b⟩ := (HT.out.drew HD1.out).symm.app (by omega) hown4 hgrow4 hat4; have HT4 := Lib.hid (TwoOwn.symm t); have BB4 := Lib.hid b; have bz4 := b.size; clear hown4 hgrow4 hat4 t b))
        have HBx : Hid (Below w.heap.size w x4) := Lib.hid (HBb.out _ ((Drew.below HD1.out _).trans BB4.out))
        go_roundg (gk - 2)
        case measure => omega
        case rel => exact ⟨_, _, a + 2, _, _, rfl, rfl, by omega, by go_num, HS, HT4, HBx⟩
      · have HS := Lib.hid (HA.out.bad HLL.out (n := 2) (by rw [HX.out]; exact d16_lo (by rw [HQ.out]; exact HLB.out) _))
        go_wp2_with (first
        | (go_at_call 22; refine (HU.out _).mono ?_; rintro e w1 ⟨rfl, hd1⟩; have HD1 := Lib.hid hd1; have dz1 : w.heap.size ≤ w1.heap.size := (by have := (HD1.out).below 0 |>.size; omega); clear hd1 HU)
        | (go_at_call 23; refine (HH.out _).mono ?_; rintro e w' ⟨rfl, rfl⟩)
        | (go_at_call 24; refine (HL1.out _).mono ?_; rintro e w' ⟨rfl, rfl⟩)
        | (at_builtin; refine wpList_append_lies _ rfl _ _ _ rfl w.heap.size 3 i0 _ 1 8 Tryd.underlying23 hi hz0 hz1 hz2 rfl (by omega) v ys.length (ys.map (Value.int .i64)) rfl (World.ownsRow.alloc (HT.out.drew HD1.out).rb _) ⟨w1.heap.size, 0, none⟩ 1 1 [_] rfl rfl (cell_one_new _ _ _) (by simp [Value.oneCell']) (by omega) (by unfold maxLen; omega) (by omega) (by simp; omega) (w1.heap.size + 1) (by simp) ?_; intro g4 cap4 x4 hown4 hgrow4 hat4 hlt4; obtain ⟨t, b⟩ := (HT.out.drew HD1.out).app (by omega) hown4 hgrow4 hat4; have HT4 := Lib.hid t; have BB4 := Lib.hid b; have bz4 := b.size; clear hown4 hgrow4 hat4 t b)
        | (at_builtin; refine wpList_append_lies _ rfl _ _ _ rfl w.heap.size 3 i0 _ 1 8 Tryd.underlying23 hi hz0 hz1 hz2 rfl (by omega) u xs.length (xs.map (Value.int .i64)) rfl (World.ownsRow.alloc (HT4.out).ra _) ⟨x4.heap.size, 0, none⟩ 1 1 [_] rfl rfl (cell_one_new _ _ _) (by simp [Value.oneCell']) (by omega) (by unfold maxLen; omega) (by omega) (by simp; omega) (x4.heap.size + 1) (by simp) ?_; intro g5 cap5 x5 hown5 hgrow5 hat5 hlt5; obtain ⟨t, b⟩ := (HT4.out).symm.app (by omega) hown5 hgrow5 hat5; have HT5 := Lib.hid (TwoOwn.symm t); have BB5 := Lib.hid b; have bz5 := b.size; clear hown5 hgrow5 hat5 t b))
        have HBx : Hid (Below w.heap.size w x5) := Lib.hid (HBb.out _ (((Drew.below HD1.out _).trans BB4.out).trans BB5.out))
        go_roundg (gk - 2)
        case measure => omega
        case rel => exact ⟨_, _, a + 2, _, _, rfl, rfl, by omega, by go_num, HS, HT5, HBx⟩
    by_cases h3 : a + 3 < s.size
    rotate_left 1
    · have HS := Lib.hid (HA.out.bad HLL.out (n := 2) (by rw [HX.out]; exact d16_hi0 (by rw [HQ.out]; exact HHB.out) (by have := HSZ.out; simp; omega)))
      have hd3 : decide ((a : Int) + 3 < (s.size : Int)) = false := by simp; omega
      go_wp2_with (first
        | (go_at_call 22; refine (HU.out _).mono ?_; rintro e w1 ⟨rfl, hd1⟩; have HD1 := Lib.hid hd1; have dz1 : w.heap.size ≤ w1.heap.size := (by have := (HD1.out).below 0 |>.size; omega); clear hd1 HU)
        | (go_at_call 23; refine (HH.out _).mono ?_; rintro e w' ⟨rfl, rfl⟩)
        | (go_at_call 24; refine (HL1.out _).mono ?_; rintro e w' ⟨rfl, rfl⟩)
        | (at_builtin; refine wpList_append_lies _ rfl _ _ _ rfl w.heap.size 3 i0 _ 1 8 Tryd.underlying23 hi hz0 hz1 hz2 rfl (by omega) v ys.length (ys.map (Value.int .i64)) rfl (World.ownsRow.alloc (HT.out.drew HD1.out).rb _) ⟨w1.heap.size, 0, none⟩ 1 1 [_] rfl rfl (cell_one_new _ _ _) (by simp [Value.oneCell']) (by omega) (by unfold maxLen; omega) (by omega) (by simp; omega) (w1.heap.size + 1) (by simp) ?_; intro g4 cap4 x4 hown4 hgrow4 hat4 hlt4; obtain ⟨t, b⟩ := (HT.out.drew HD1.out).app (by omega) hown4 hgrow4 hat4; have HT4 := Lib.hid t; have BB4 := Lib.hid b; have bz4 := b.size; clear hown4 hgrow4 hat4 t b)
        | (at_builtin; refine wpList_append_lies _ rfl _ _ _ rfl w.heap.size 3 i0 _ 1 8 Tryd.underlying23 hi hz0 hz1 hz2 rfl (by omega) u xs.length (xs.map (Value.int .i64)) rfl (World.ownsRow.alloc (HT4.out).ra _) ⟨x4.heap.size, 0, none⟩ 1 1 [_] rfl rfl (cell_one_new _ _ _) (by simp [Value.oneCell']) (by omega) (by unfold maxLen; omega) (by omega) (by simp; omega) (x4.heap.size + 1) (by simp) ?_; intro g5 cap5 x5 hown5 hgrow5 hat5 hlt5; obtain ⟨t, b⟩ := (HT4.out).symm.app (by omega) hown5 hgrow5 hat5; have HT5 := Lib.hid (TwoOwn.symm t); have BB5 := Lib.hid b; have bz5 := b.size; clear hown5 hgrow5 hat5 t b))
      have HBx : Hid (Below w.heap.size w x5) := Lib.hid (HBb.out _ (((Drew.below HD1.out _).trans BB4.out).trans BB5.out))
      go_roundg (gk - 2)
      case measure => omega
      case rel => exact ⟨_, _, a + 2, _, _, rfl, rfl, by omega, by go_num, HS, HT5, HBx⟩
    have hd3 : decide ((a : Int) + 3 < (s.size : Int)) = true := by simp; omega
    have HX2 : Hid (l.drop (a + 2) = s[a + 2] :: s[a + 3] :: l.drop (a + 4)) := Lib.hid (by rw [← HL.out]; exact drop_two s (a + 2) h3)
    have hlt2 := un_lt big s[a + 2] s[a + 3]
    have hU2 : ∀ w1, Calls Tryd.prog 22 #[.string s, .int .i64 ((a : Int) + 2), .bool big] w1 fun e w' => UnitS s (a + 2) big (un big s[a + 2] s[a + 3]) w1 e w' := fun w1 => runit_any s (a + 2) big w1 h3 (by omega)
    obtain ⟨m, hm⟩ : ∃ u, un big s[a + 2] s[a + 3] = u := ⟨_, rfl⟩
    rw [hm] at hlt2
    simp only [hm] at hU2
    have HU2 := Lib.hid hU2
    have HU3 := Lib.hid hU2
    have HQ2 := Lib.hid hm
    clear hU2 hm
    obtain ⟨mb, hmb⟩ : ∃ b, loB m = b := ⟨_, rfl⟩
    have HL2 : Hid (∀ w1, Calls Tryd.prog 24 #[.int .i64 m] w1 fun e w' => e = .returned (.bool mb) ∧ w1 = w') := Lib.hid (fun w1 => by have := rlow_any m w1; rwa [hmb] at this)
    have HMB := Lib.hid hmb
    clear hmb HL1
    cases mb
    · have HS := Lib.hid (HA.out.bad HLL.out (n := 2) (by rw [HX.out, HX2.out]; exact d16_hi1 (by rw [HQ.out]; exact HHB.out) (by rw [HQ2.out]; exact HMB.out) _))
      go_wp2_with (first
        | (go_at_call 22; refine (HU.out _).mono ?_; rintro e w1 ⟨rfl, hd1⟩; have HD1 := Lib.hid hd1; have dz1 : w.heap.size ≤ w1.heap.size := (by have := (HD1.out).below 0 |>.size; omega); clear hd1 HU)
        | (go_at_call 22; refine (HU2.out _).mono ?_; rintro e w2 ⟨rfl, hd2⟩; have HD2 : Hid (Drew wr w2) := Lib.hid (HD1.out.trans hd2); have dz2 : w.heap.size ≤ w2.heap.size := (by have := (HD2.out).below 0 |>.size; omega); clear hd2 HU2)
        | (go_at_call 23; refine (HH.out _).mono ?_; rintro e w' ⟨rfl, rfl⟩)
        | (go_at_call 24; refine (HL2.out _).mono ?_; rintro e w' ⟨rfl, rfl⟩)
        | (at_builtin; refine wpList_append_lies _ rfl _ _ _ rfl w.heap.size 3 i0 _ 1 8 Tryd.underlying23 hi hz0 hz1 hz2 rfl (by omega) v ys.length (ys.map (Value.int .i64)) rfl (World.ownsRow.alloc (HT.out.drew HD2.out).rb _) ⟨w2.heap.size, 0, none⟩ 1 1 [_] rfl rfl (cell_one_new _ _ _) (by simp [Value.oneCell']) (by omega) (by unfold maxLen; omega) (by omega) (by simp; omega) (w2.heap.size + 1) (by simp) ?_; intro g4 cap4 x4 hown4 hgrow4 hat4 hlt4; obtain ⟨t, b⟩ := (HT.out.drew HD2.out).app (by omega) hown4 hgrow4 hat4; have HT4 := Lib.hid t; have BB4 := Lib.hid b; have bz4 := b.size; clear hown4 hgrow4 hat4 t b)
        | (at_builtin; refine wpList_append_lies _ rfl _ _ _ rfl w.heap.size 3 i0 _ 1 8 Tryd.underlying23 hi hz0 hz1 hz2 rfl (by omega) u xs.length (xs.map (Value.int .i64)) rfl (World.ownsRow.alloc (HT4.out).ra _) ⟨x4.heap.size, 0, none⟩ 1 1 [_] rfl rfl (cell_one_new _ _ _) (by simp [Value.oneCell']) (by omega) (by unfold maxLen; omega) (by omega) (by simp; omega) (x4.heap.size + 1) (by simp) ?_; intro g5 cap5 x5 hown5 hgrow5 hat5 hlt5; obtain ⟨t, b⟩ := (HT4.out).symm.app (by omega) hown5 hgrow5 hat5; have HT5 := Lib.hid (TwoOwn.symm t); have BB5 := Lib.hid b; have bz5 := b.size; clear hown5 hgrow5 hat5 t b))
      have HBx : Hid (Below w.heap.size w x5) := Lib.hid (HBb.out _ (((Drew.below HD2.out _).trans BB4.out).trans BB5.out))
      go_roundg (gk - 2)
      case measure => omega
      case rel => exact ⟨_, _, a + 2, _, _, rfl, rfl, by omega, by go_num, HS, HT5, HBx⟩
    · have hc1 := hiB_iff.1 HHB.out
      have hc2 := loB_iff.1 HMB.out
      have HS := Lib.hid (HA.out.good HLL.out (n := 4) (r := 65536 + (n - 55296) * 1024 + m - 56320) (by
        rw [HX.out, HX2.out, d16_hi2 (by rw [HQ.out]; exact HHB.out) (by rw [HQ2.out]; exact HMB.out), HQ.out, HQ2.out]
        congr 1; omega) (by omega))
      go_wp2_with (first
        | (go_at_call 22; refine (HU.out _).mono ?_; rintro e w1 ⟨rfl, hd1⟩; have HD1 := Lib.hid hd1; have dz1 : w.heap.size ≤ w1.heap.size := (by have := (HD1.out).below 0 |>.size; omega); clear hd1 HU)
        | (go_at_call 22; refine (HU2.out _).mono ?_; rintro e w2 ⟨rfl, hd2⟩; have HD2 : Hid (Drew wr w2) := Lib.hid (HD1.out.trans hd2); have dz2 : w.heap.size ≤ w2.heap.size := (by have := (HD2.out).below 0 |>.size; omega); clear hd2 HU2)
        | (go_at_call 22; refine (HU3.out _).mono ?_; rintro e w3 ⟨rfl, hd3⟩; have HD3 : Hid (Drew wr w3) := Lib.hid (HD2.out.trans hd3); have dz3 : w.heap.size ≤ w3.heap.size := (by have := (HD3.out).below 0 |>.size; omega); clear hd3 HU3)
        | (go_at_call 23; refine (HH.out _).mono ?_; rintro e w' ⟨rfl, rfl⟩)
        | (go_at_call 24; refine (HL2.out _).mono ?_; rintro e w' ⟨rfl, rfl⟩)
        | (at_builtin; refine wpList_append_lies _ rfl _ _ _ rfl w.heap.size 3 i0 _ 1 8 Tryd.underlying23 hi hz0 hz1 hz2 rfl (by omega) u xs.length (xs.map (Value.int .i64)) rfl (World.ownsRow.alloc (HT.out.drew HD3.out).ra _) ⟨w3.heap.size, 0, none⟩ 1 1 [_] rfl rfl (cell_one_new _ _ _) (by simp [Value.oneCell']) (by omega) (by unfold maxLen; omega) (by omega) (by simp; omega) (w3.heap.size + 1) (by simp) ?_; intro g4 cap4 x4 hown4 hgrow4 hat4 hlt4; obtain ⟨t, b⟩ := (HT.out.drew HD3.out).symm.app (by omega) hown4 hgrow4 hat4; have HT4 := Lib.hid (TwoOwn.symm t); have BB4 := Lib.hid b; have bz4 := b.size; clear hown4 hgrow4 hat4 t b))
      have HBx : Hid (Below w.heap.size w x4) := Lib.hid (HBb.out _ ((Drew.below HD3.out _).trans BB4.out))
      go_roundg (gk - 4)
      case measure => omega
      case rel => exact ⟨_, _, a + 4, _, _, rfl, rfl, by omega, by go_num, HS, HT4, HBx⟩
end Go.Proofs.YtnalnpidmmkfgaaDoor
