/- The contracts of utf8.add and Put. -/
import Derived.Test.YtgahaehnlbkihaaDoorR
import Derived.Maps.AppendAt
import Derived.Deep.AppendLies
namespace Go.Proofs.YtgahaehnlbkihaaDoor
open Go.RowKit
set_option linter.unusedVariables false
set_option linter.unusedSimpArgs false
theorem info5 : (Tryd.prog.info? 5).map (fun i => (i.zero, i.size, i.bytes)) = some (some (.int .u8 0), 1, 1) := by kernel_rfl
def u8v (b : UInt8) : Value := .int .u8 (b.toNat : Int)
/-- v is a slice of bytes of the call's own (blocks from `base` on) that holds xs. -/
def Own8 (w : World) (base : Nat) (v : Value) (xs : List UInt8) : Prop := w.ownsRow base 5 1 v xs.length (xs.map u8v)
theorem grown_trans {w w1 w2 : World} {row row2 : Option Nat} (h : w.grownBy w1 row) (h2 : w1.grownBy w2 row2) (hr : row2 = row ∨ row2 = none ∨ ∃ k, row2 = some k ∧ w.heap.size ≤ k) : w.grownBy w2 row :=
  ⟨h2.os.trans h.os, h2.tape.trans h.tape, h2.output.trans h.output, Nat.le_trans h.size h2.size, fun k hk hne => by
    refine (h2.block k (Nat.lt_of_lt_of_le hk h.size) ?_).trans (h.block k hk hne)
    rcases hr with rfl | rfl | ⟨j, rfl, hj⟩
    · exact hne
    · simp
    · intro e; cases e; omega⟩
theorem grown_drew (w : World) (row : Option Nat) : w.grownBy w.drew row := ⟨rfl, rfl, rfl, Nat.le_refl _, fun _ _ _ => rfl⟩
theorem u8_or0 (x : Int) (h0 : 0 ≤ x) (h1 : x < 256) : bits .or .u8 0 x = x := by
  obtain ⟨a, rfl⟩ := Int.eq_ofNat_of_zero_le h0
  have := u8_or_nat 0 a (by omega) (by omega)
  rw [Nat.zero_or] at this
  exact this
def AddS (w : World) (base : Nat) (v : Value) (xs : List UInt8) (r : Int) (e : Ending) (w' : World) : Prop :=
  ∃ v', e = .returned v' ∧ Own8 w' base v' (xs ++ enc r) ∧ w.grownBy w' v.ownBlock
theorem grown_first {w w1 : World} {row : Option Nat} {o : Obj} (h : ((w.alloc o).drew).grownBy w1 row) : w.grownBy w1 row :=
  grown_trans (grown_trans (World.grownBy_alloc w o row) (grown_drew _ row) (.inl rfl)) h (.inl rfl)
theorem grown_step {w w1 w2 : World} {row : Option Nat} {g H : Nat} {o : Obj} (h : w.grownBy w1 row) (h2 : (w1.alloc o).grownBy w2 (some g)) (hr : row = some g ∨ g = H) (hH : w.heap.size ≤ H) : w.grownBy w2 row :=
  grown_trans h (grown_trans (World.grownBy_alloc w1 o (some g)) h2 (.inl rfl)) (by
    rcases hr with rfl | rfl
    · exact .inl rfl
    · exact .inr (.inr ⟨_, rfl, hH⟩))
theorem at_step {row : Option Nat} {g1 g2 H1 H2 B : Nat} (h : row = some g1 ∨ B ≤ g1) (h2 : some g1 = some g2 ∨ g2 = H2) (hH : B ≤ H2) : row = some g2 ∨ B ≤ g2 := by
  rcases h2 with e | e
  · cases e; exact h
  · right; omega
theorem grown_step' {w w1 w2 : World} {row : Option Nat} {g : Nat} {o : Obj} (h : w.grownBy w1 row) (h2 : (w1.alloc o).grownBy w2 (some g)) (hr : row = some g ∨ w.heap.size ≤ g) : w.grownBy w2 row :=
  grown_trans h (grown_trans (World.grownBy_alloc w1 o (some g)) h2 (.inl rfl)) (by
    rcases hr with rfl | hr
    · exact .inl rfl
    · exact .inr (.inr ⟨_, rfl, hr⟩))
set_option maxHeartbeats 1600000 in
theorem add_1 (v : Value) (base : Nat) (xs : List UInt8) (r : Int) (w : World) (hg : Gl w) (hb3 : 2 < base) (hbase : base ≤ w.heap.size) (hown : Own8 w base v xs) (hlen : xs.length ≤ 100000) (h : isB r = true) (h0 : 0 ≤ r) (h1 : r < 128) :
    Calls Tryd.prog 24 #[v, .int .i64 r] w fun e w' => AddS w base v xs r e w' := by
  obtain ⟨i0, hi, hz0, hz1, hz2⟩ := info_parts info5
  have hL : Hid (lenF r = 1) := Lib.hid (lenF1 h h1)
  have H := Lib.hid h; clear h
  have hm : w.cell? ⟨1, 1, none⟩ = some (.int .u8 0) := hg.mrk 1 (by omega)
  have HO := Lib.hid hown; clear hown
  have hnv : Hid (v.ownBlock ≠ some 1) := Lib.hid (by
    intro e
    have := (HO.out).lt 1 e
    omega)
  have hw0 : IntKind.u8.wrap r = r := by rw [IntKind.wrap_u8]; omega
  have ho0 : bits .or .u8 0 r = r := u8_or0 r (by omega) (by omega)
  go_enter Tryd.func24, Tryd.ntmps24
  go_wp2_with (go_at_call 30; refine (len_any _ _ (by assumption)).mono ?_; rw [hL.out]; rintro e w' ⟨rfl, rfl⟩)
  go_region_held3 (fun w' => w'.cell? ⟨1, 1, none⟩ = some (.int .u8 0))
    (first
      | go_keep
      | (rw [hgrow.cell_far _ (by simp; omega) (Ne.symm hnv.out)]; assumption))
    ((refine step_append_lies _ (by rfl) _ _ _ (by rfl) base 5 i0 _ 1 1 Tryd.underlying47 hi hz0 hz1 hz2 rfl (by omega) v xs.length (xs.map u8v) (by rfl) ((World.ownsRow.alloc HO.out _).drew)
        ⟨w.heap.size, 0, none⟩ 1 1 [_] (by rfl) (by rfl) (World.news_of_block (t := 5) (fr := (0, 0)) (heap_alloc_new w _)) (by simp [Value.oneCell'])
        (by omega) (by unfold maxLen; omega) (by omega) (by simp; omega) (w.heap.size + 1) (by simp) ?_; intro g1 cap1 w1 hown1 hgrow hat hlt))
  have O1 : Hid (w1.ownsRow base 5 1 (.slice (some ⟨g1, 0, none⟩) (xs.length + 1) cap1) (xs.length + 1) (xs.map u8v ++ [.int .u8 (r)])) := Lib.hid hown1
  have G1 : Hid (w.grownBy w1 v.ownBlock) := Lib.hid (grown_first hgrow)
  have S1 := G1.out.size
  have T1 : Hid (v.ownBlock = some g1 ∨ w.heap.size ≤ g1) := Lib.hid (by rcases hat with e | e; exact .inl e; exact .inr (by omega))
  clear hown1 hgrow hat hlt hm hw0 ho0
  go_wp2_with fail
  refine wp_loop_rounds 1 ?_; rw [rounds_succ]
  go_wp2_with fail
  go_ret
  exact ⟨_, rfl, by
    have := O1.out
    unfold Own8
    rw [enc1 H.out h1, List.length_append, List.map_append]
    simp only [List.map_cons, List.map_nil, u8v, List.append_assoc, List.cons_append, List.nil_append] at this ⊢
    rw [by8_val (by omega) (by omega)]
    exact this, G1.out⟩
set_option maxHeartbeats 1600000 in
theorem add_2 (v : Value) (base : Nat) (xs : List UInt8) (r : Int) (w : World) (hg : Gl w) (hb3 : 2 < base) (hbase : base ≤ w.heap.size) (hown : Own8 w base v xs) (hlen : xs.length ≤ 100000) (h : isB r = true) (h0 : 128 ≤ r) (h1 : r < 2048) :
    Calls Tryd.prog 24 #[v, .int .i64 r] w fun e w' => AddS w base v xs r e w' := by
  obtain ⟨i0, hi, hz0, hz1, hz2⟩ := info_parts info5
  have hL : Hid (lenF r = 2) := Lib.hid (lenF2 h h0 h1)
  have H := Lib.hid h; clear h
  have hm : w.cell? ⟨1, 2, none⟩ = some (.int .u8 192) := hg.mrk 2 (by omega)
  have HO := Lib.hid hown; clear hown
  have hnv : Hid (v.ownBlock ≠ some 1) := Lib.hid (by
    intro e
    have := (HO.out).lt 1 e
    omega)
  have hw0 : IntKind.u8.wrap (r / 64) = (r / 64) := by rw [IntKind.wrap_u8]; omega
  have ho0 : bits .or .u8 192 (r / 64) = 192 + (r / 64) := u8_or192 _ (by omega) (by omega)
  have hw1 : IntKind.u8.wrap r = r % 256 := IntKind.wrap_u8 _
  have ha1 : bits .and .u8 (r % 256) 63 = r % 64 := (u8_and63 _ (by omega) (by omega)).trans (by omega)
  have ho1 : bits .or .u8 128 (r % 64) = 128 + r % 64 := u8_or128 _ (by omega) (by omega)
  go_enter Tryd.func24, Tryd.ntmps24
  go_wp2_with (go_at_call 30; refine (len_any _ _ (by assumption)).mono ?_; rw [hL.out]; rintro e w' ⟨rfl, rfl⟩)
  go_region_held3 (fun w' => w'.cell? ⟨1, 2, none⟩ = some (.int .u8 192))
    (first
      | go_keep
      | (rw [hgrow.cell_far _ (by simp; omega) (Ne.symm hnv.out)]; assumption))
    ((refine step_append_lies _ (by rfl) _ _ _ (by rfl) base 5 i0 _ 1 1 Tryd.underlying47 hi hz0 hz1 hz2 rfl (by omega) v xs.length (xs.map u8v) (by rfl) ((World.ownsRow.alloc HO.out _).drew)
        ⟨w.heap.size, 0, none⟩ 1 1 [_] (by rfl) (by rfl) (World.news_of_block (t := 5) (fr := (0, 0)) (heap_alloc_new w _)) (by simp [Value.oneCell'])
        (by omega) (by unfold maxLen; omega) (by omega) (by simp; omega) (w.heap.size + 1) (by simp) ?_; intro g1 cap1 w1 hown1 hgrow hat hlt))
  have O1 : Hid (w1.ownsRow base 5 1 (.slice (some ⟨g1, 0, none⟩) (xs.length + 1) cap1) (xs.length + 1) (xs.map u8v ++ [.int .u8 (192 + (r / 64))])) := Lib.hid hown1
  have G1 : Hid (w.grownBy w1 v.ownBlock) := Lib.hid (grown_first hgrow)
  have S1 := G1.out.size
  have T1 : Hid (v.ownBlock = some g1 ∨ w.heap.size ≤ g1) := Lib.hid (by rcases hat with e | e; exact .inl e; exact .inr (by omega))
  clear hown1 hgrow hat hlt hm hw0 ho0
  go_wp2_with fail
  refine wp_loop_rounds 2 ?_; rw [rounds_succ]
  go_wp2_with (at_builtin; refine wpList_append_lies _ rfl _ _ _ rfl base 5 i0 _ 1 1 Tryd.underlying47 hi hz0 hz1 hz2 rfl (by omega) _ (xs.length + 1) _ rfl (World.ownsRow.alloc O1.out _) ⟨w1.heap.size, 0, none⟩ 1 1 [_] rfl rfl (cell_one_new _ _ _) (by simp [Value.oneCell']) (by omega) (by unfold maxLen; omega) (by omega) (by simp; omega) (w1.heap.size + 1) (by simp) ?_; intro g2 cap2 w2 hown2 hgrow2 hat2 hlt2)
  have O2 : Hid (w2.ownsRow base 5 1 (.slice (some ⟨g2, 0, none⟩) (xs.length + 1 + 1) cap2) (xs.length + 1 + 1) (xs.map u8v ++ [.int .u8 (192 + (r / 64))] ++ [.int .u8 (128 + r % 64)])) := Lib.hid hown2
  have G2 : Hid (w.grownBy w2 v.ownBlock) := Lib.hid (grown_step' G1.out hgrow2 T1.out)
  have S2 := G2.out.size
  have T2 : Hid (v.ownBlock = some g2 ∨ w.heap.size ≤ g2) := Lib.hid (at_step (H1 := 0) T1.out hat2 (by omega))
  clear hown2 hgrow2 hat2 hlt2
  go_wp2_with fail
  rw [rounds_succ]
  go_wp2_with fail
  go_ret
  exact ⟨_, rfl, by
    have := O2.out
    unfold Own8
    rw [enc2 H.out h0 h1, List.length_append, List.map_append]
    simp only [List.map_cons, List.map_nil, u8v, List.append_assoc, List.cons_append, List.nil_append] at this ⊢
    rw [by8_val (by omega) (by omega), by8_val (by omega) (by omega)]
    exact this, G2.out⟩
set_option maxHeartbeats 1600000 in
theorem add_3 (v : Value) (base : Nat) (xs : List UInt8) (r : Int) (w : World) (hg : Gl w) (hb3 : 2 < base) (hbase : base ≤ w.heap.size) (hown : Own8 w base v xs) (hlen : xs.length ≤ 100000) (h : isB r = true) (h0 : 2048 ≤ r) (h1 : r < 65536) :
    Calls Tryd.prog 24 #[v, .int .i64 r] w fun e w' => AddS w base v xs r e w' := by
  obtain ⟨i0, hi, hz0, hz1, hz2⟩ := info_parts info5
  have hL : Hid (lenF r = 3) := Lib.hid (lenF3 h h0 h1)
  have H := Lib.hid h; clear h
  have hm : w.cell? ⟨1, 3, none⟩ = some (.int .u8 224) := hg.mrk 3 (by omega)
  have HO := Lib.hid hown; clear hown
  have hnv : Hid (v.ownBlock ≠ some 1) := Lib.hid (by
    intro e
    have := (HO.out).lt 1 e
    omega)
  have hw0 : IntKind.u8.wrap (r / 4096) = (r / 4096) := by rw [IntKind.wrap_u8]; omega
  have ho0 : bits .or .u8 224 (r / 4096) = 224 + (r / 4096) := u8_or224 _ (by omega) (by omega)
  have hw1 : IntKind.u8.wrap (r / 64) = r / 64 % 256 := IntKind.wrap_u8 _
  have ha1 : bits .and .u8 (r / 64 % 256) 63 = r / 64 % 64 := (u8_and63 _ (by omega) (by omega)).trans (by omega)
  have ho1 : bits .or .u8 128 (r / 64 % 64) = 128 + r / 64 % 64 := u8_or128 _ (by omega) (by omega)
  have hw2 : IntKind.u8.wrap r = r % 256 := IntKind.wrap_u8 _
  have ha2 : bits .and .u8 (r % 256) 63 = r % 64 := (u8_and63 _ (by omega) (by omega)).trans (by omega)
  have ho2 : bits .or .u8 128 (r % 64) = 128 + r % 64 := u8_or128 _ (by omega) (by omega)
  go_enter Tryd.func24, Tryd.ntmps24
  go_wp2_with (go_at_call 30; refine (len_any _ _ (by assumption)).mono ?_; rw [hL.out]; rintro e w' ⟨rfl, rfl⟩)
  go_region_held3 (fun w' => w'.cell? ⟨1, 3, none⟩ = some (.int .u8 224))
    (first
      | go_keep
      | (rw [hgrow.cell_far _ (by simp; omega) (Ne.symm hnv.out)]; assumption))
    ((refine step_append_lies _ (by rfl) _ _ _ (by rfl) base 5 i0 _ 1 1 Tryd.underlying47 hi hz0 hz1 hz2 rfl (by omega) v xs.length (xs.map u8v) (by rfl) ((World.ownsRow.alloc HO.out _).drew)
        ⟨w.heap.size, 0, none⟩ 1 1 [_] (by rfl) (by rfl) (World.news_of_block (t := 5) (fr := (0, 0)) (heap_alloc_new w _)) (by simp [Value.oneCell'])
        (by omega) (by unfold maxLen; omega) (by omega) (by simp; omega) (w.heap.size + 1) (by simp) ?_; intro g1 cap1 w1 hown1 hgrow hat hlt))
  have O1 : Hid (w1.ownsRow base 5 1 (.slice (some ⟨g1, 0, none⟩) (xs.length + 1) cap1) (xs.length + 1) (xs.map u8v ++ [.int .u8 (224 + (r / 4096))])) := Lib.hid hown1
  have G1 : Hid (w.grownBy w1 v.ownBlock) := Lib.hid (grown_first hgrow)
  have S1 := G1.out.size
  have T1 : Hid (v.ownBlock = some g1 ∨ w.heap.size ≤ g1) := Lib.hid (by rcases hat with e | e; exact .inl e; exact .inr (by omega))
  clear hown1 hgrow hat hlt hm hw0 ho0
  go_wp2_with fail
  refine wp_loop_rounds 3 ?_; rw [rounds_succ]
  go_wp2_with (at_builtin; refine wpList_append_lies _ rfl _ _ _ rfl base 5 i0 _ 1 1 Tryd.underlying47 hi hz0 hz1 hz2 rfl (by omega) _ (xs.length + 1) _ rfl (World.ownsRow.alloc O1.out _) ⟨w1.heap.size, 0, none⟩ 1 1 [_] rfl rfl (cell_one_new _ _ _) (by simp [Value.oneCell']) (by omega) (by unfold maxLen; omega) (by omega) (by simp; omega) (w1.heap.size + 1) (by simp) ?_; intro g2 cap2 w2 hown2 hgrow2 hat2 hlt2)
  have O2 : Hid (w2.ownsRow base 5 1 (.slice (some ⟨g2, 0, none⟩) (xs.length + 1 + 1) cap2) (xs.length + 1 + 1) (xs.map u8v ++ [.int .u8 (224 + (r / 4096))] ++ [.int .u8 (128 + r / 64 % 64)])) := Lib.hid hown2
  have G2 : Hid (w.grownBy w2 v.ownBlock) := Lib.hid (grown_step' G1.out hgrow2 T1.out)
  have S2 := G2.out.size
  have T2 : Hid (v.ownBlock = some g2 ∨ w.heap.size ≤ g2) := Lib.hid (at_step (H1 := 0) T1.out hat2 (by omega))
  clear hown2 hgrow2 hat2 hlt2
  go_wp2_with fail
  rw [rounds_succ]
  go_wp2_with (at_builtin; refine wpList_append_lies _ rfl _ _ _ rfl base 5 i0 _ 1 1 Tryd.underlying47 hi hz0 hz1 hz2 rfl (by omega) _ (xs.length + 2) _ rfl (World.ownsRow.alloc O2.out _) ⟨w2.heap.size, 0, none⟩ 1 1 [_] rfl rfl (cell_one_new _ _ _) (by simp [Value.oneCell']) (by omega) (by unfold maxLen; omega) (by omega) (by simp; omega) (w2.heap.size + 1) (by simp) ?_; intro g3 cap3 w3 hown3 hgrow3 hat3 hlt3)
  have O3 : Hid (w3.ownsRow base 5 1 (.slice (some ⟨g3, 0, none⟩) (xs.length + 2 + 1) cap3) (xs.length + 2 + 1) (xs.map u8v ++ [.int .u8 (224 + (r / 4096))] ++ [.int .u8 (128 + r / 64 % 64)] ++ [.int .u8 (128 + r % 64)])) := Lib.hid hown3
  have G3 : Hid (w.grownBy w3 v.ownBlock) := Lib.hid (grown_step' G2.out hgrow3 T2.out)
  have S3 := G3.out.size
  have T3 : Hid (v.ownBlock = some g3 ∨ w.heap.size ≤ g3) := Lib.hid (at_step (H1 := 0) T2.out hat3 (by omega))
  clear hown3 hgrow3 hat3 hlt3
  go_wp2_with fail
  rw [rounds_succ]
  go_wp2_with fail
  go_ret
  exact ⟨_, rfl, by
    have := O3.out
    unfold Own8
    rw [enc3 H.out h0 h1, List.length_append, List.map_append]
    simp only [List.map_cons, List.map_nil, u8v, List.append_assoc, List.cons_append, List.nil_append] at this ⊢
    rw [by8_val (by omega) (by omega), by8_val (by omega) (by omega), by8_val (by omega) (by omega)]
    exact this, G3.out⟩
set_option maxHeartbeats 1600000 in
theorem add_4 (v : Value) (base : Nat) (xs : List UInt8) (r : Int) (w : World) (hg : Gl w) (hb3 : 2 < base) (hbase : base ≤ w.heap.size) (hown : Own8 w base v xs) (hlen : xs.length ≤ 100000) (h : isB r = true) (h0 : 65536 ≤ r) (h1 : r ≤ 1114111) :
    Calls Tryd.prog 24 #[v, .int .i64 r] w fun e w' => AddS w base v xs r e w' := by
  obtain ⟨i0, hi, hz0, hz1, hz2⟩ := info_parts info5
  have hL : Hid (lenF r = 4) := Lib.hid (lenF4 h h0)
  have H := Lib.hid h; clear h
  have hm : w.cell? ⟨1, 4, none⟩ = some (.int .u8 240) := hg.mrk 4 (by omega)
  have HO := Lib.hid hown; clear hown
  have hnv : Hid (v.ownBlock ≠ some 1) := Lib.hid (by
    intro e
    have := (HO.out).lt 1 e
    omega)
  have hw0 : IntKind.u8.wrap (r / 262144) = (r / 262144) := by rw [IntKind.wrap_u8]; omega
  have ho0 : bits .or .u8 240 (r / 262144) = 240 + (r / 262144) := u8_or240 _ (by omega) (by omega)
  have hw1 : IntKind.u8.wrap (r / 4096) = r / 4096 % 256 := IntKind.wrap_u8 _
  have ha1 : bits .and .u8 (r / 4096 % 256) 63 = r / 4096 % 64 := (u8_and63 _ (by omega) (by omega)).trans (by omega)
  have ho1 : bits .or .u8 128 (r / 4096 % 64) = 128 + r / 4096 % 64 := u8_or128 _ (by omega) (by omega)
  have hw2 : IntKind.u8.wrap (r / 64) = r / 64 % 256 := IntKind.wrap_u8 _
  have ha2 : bits .and .u8 (r / 64 % 256) 63 = r / 64 % 64 := (u8_and63 _ (by omega) (by omega)).trans (by omega)
  have ho2 : bits .or .u8 128 (r / 64 % 64) = 128 + r / 64 % 64 := u8_or128 _ (by omega) (by omega)
  have hw3 : IntKind.u8.wrap r = r % 256 := IntKind.wrap_u8 _
  have ha3 : bits .and .u8 (r % 256) 63 = r % 64 := (u8_and63 _ (by omega) (by omega)).trans (by omega)
  have ho3 : bits .or .u8 128 (r % 64) = 128 + r % 64 := u8_or128 _ (by omega) (by omega)
  go_enter Tryd.func24, Tryd.ntmps24
  go_wp2_with (go_at_call 30; refine (len_any _ _ (by assumption)).mono ?_; rw [hL.out]; rintro e w' ⟨rfl, rfl⟩)
  go_region_held3 (fun w' => w'.cell? ⟨1, 4, none⟩ = some (.int .u8 240))
    (first
      | go_keep
      | (rw [hgrow.cell_far _ (by simp; omega) (Ne.symm hnv.out)]; assumption))
    ((refine step_append_lies _ (by rfl) _ _ _ (by rfl) base 5 i0 _ 1 1 Tryd.underlying47 hi hz0 hz1 hz2 rfl (by omega) v xs.length (xs.map u8v) (by rfl) ((World.ownsRow.alloc HO.out _).drew)
        ⟨w.heap.size, 0, none⟩ 1 1 [_] (by rfl) (by rfl) (World.news_of_block (t := 5) (fr := (0, 0)) (heap_alloc_new w _)) (by simp [Value.oneCell'])
        (by omega) (by unfold maxLen; omega) (by omega) (by simp; omega) (w.heap.size + 1) (by simp) ?_; intro g1 cap1 w1 hown1 hgrow hat hlt))
  have O1 : Hid (w1.ownsRow base 5 1 (.slice (some ⟨g1, 0, none⟩) (xs.length + 1) cap1) (xs.length + 1) (xs.map u8v ++ [.int .u8 (240 + (r / 262144))])) := Lib.hid hown1
  have G1 : Hid (w.grownBy w1 v.ownBlock) := Lib.hid (grown_first hgrow)
  have S1 := G1.out.size
  have T1 : Hid (v.ownBlock = some g1 ∨ w.heap.size ≤ g1) := Lib.hid (by rcases hat with e | e; exact .inl e; exact .inr (by omega))
  clear hown1 hgrow hat hlt hm hw0 ho0
  go_wp2_with fail
  refine wp_loop_rounds 4 ?_; rw [rounds_succ]
  go_wp2_with (at_builtin; refine wpList_append_lies _ rfl _ _ _ rfl base 5 i0 _ 1 1 Tryd.underlying47 hi hz0 hz1 hz2 rfl (by omega) _ (xs.length + 1) _ rfl (World.ownsRow.alloc O1.out _) ⟨w1.heap.size, 0, none⟩ 1 1 [_] rfl rfl (cell_one_new _ _ _) (by simp [Value.oneCell']) (by omega) (by unfold maxLen; omega) (by omega) (by simp; omega) (w1.heap.size + 1) (by simp) ?_; intro g2 cap2 w2 hown2 hgrow2 hat2 hlt2)
  have O2 : Hid (w2.ownsRow base 5 1 (.slice (some ⟨g2, 0, none⟩) (xs.length + 1 + 1) cap2) (xs.length + 1 + 1) (xs.map u8v ++ [.int .u8 (240 + (r / 262144))] ++ [.int .u8 (128 + r / 4096 % 64)])) := Lib.hid hown2
  have G2 : Hid (w.grownBy w2 v.ownBlock) := Lib.hid (grown_step' G1.out hgrow2 T1.out)
  have S2 := G2.out.size
  have T2 : Hid (v.ownBlock = some g2 ∨ w.heap.size ≤ g2) := Lib.hid (at_step (H1 := 0) T1.out hat2 (by omega))
  clear hown2 hgrow2 hat2 hlt2
  go_wp2_with fail
  rw [rounds_succ]
  go_wp2_with (at_builtin; refine wpList_append_lies _ rfl _ _ _ rfl base 5 i0 _ 1 1 Tryd.underlying47 hi hz0 hz1 hz2 rfl (by omega) _ (xs.length + 2) _ rfl (World.ownsRow.alloc O2.out _) ⟨w2.heap.size, 0, none⟩ 1 1 [_] rfl rfl (cell_one_new _ _ _) (by simp [Value.oneCell']) (by omega) (by unfold maxLen; omega) (by omega) (by simp; omega) (w2.heap.size + 1) (by simp) ?_; intro g3 cap3 w3 hown3 hgrow3 hat3 hlt3)
  have O3 : Hid (w3.ownsRow base 5 1 (.slice (some ⟨g3, 0, none⟩) (xs.length + 2 + 1) cap3) (xs.length + 2 + 1) (xs.map u8v ++ [.int .u8 (240 + (r / 262144))] ++ [.int .u8 (128 + r / 4096 % 64)] ++ [.int .u8 (128 + r / 64 % 64)])) := Lib.hid hown3
  have G3 : Hid (w.grownBy w3 v.ownBlock) := Lib.hid (grown_step' G2.out hgrow3 T2.out)
  have S3 := G3.out.size
  have T3 : Hid (v.ownBlock = some g3 ∨ w.heap.size ≤ g3) := Lib.hid (at_step (H1 := 0) T2.out hat3 (by omega))
  clear hown3 hgrow3 hat3 hlt3
  go_wp2_with fail
  rw [rounds_succ]
  go_wp2_with (at_builtin; refine wpList_append_lies _ rfl _ _ _ rfl base 5 i0 _ 1 1 Tryd.underlying47 hi hz0 hz1 hz2 rfl (by omega) _ (xs.length + 3) _ rfl (World.ownsRow.alloc O3.out _) ⟨w3.heap.size, 0, none⟩ 1 1 [_] rfl rfl (cell_one_new _ _ _) (by simp [Value.oneCell']) (by omega) (by unfold maxLen; omega) (by omega) (by simp; omega) (w3.heap.size + 1) (by simp) ?_; intro g4 cap4 w4 hown4 hgrow4 hat4 hlt4)
  have O4 : Hid (w4.ownsRow base 5 1 (.slice (some ⟨g4, 0, none⟩) (xs.length + 3 + 1) cap4) (xs.length + 3 + 1) (xs.map u8v ++ [.int .u8 (240 + (r / 262144))] ++ [.int .u8 (128 + r / 4096 % 64)] ++ [.int .u8 (128 + r / 64 % 64)] ++ [.int .u8 (128 + r % 64)])) := Lib.hid hown4
  have G4 : Hid (w.grownBy w4 v.ownBlock) := Lib.hid (grown_step' G3.out hgrow4 T3.out)
  have S4 := G4.out.size
  have T4 : Hid (v.ownBlock = some g4 ∨ w.heap.size ≤ g4) := Lib.hid (at_step (H1 := 0) T3.out hat4 (by omega))
  clear hown4 hgrow4 hat4 hlt4
  go_wp2_with fail
  rw [rounds_succ]
  go_wp2_with fail
  go_ret
  exact ⟨_, rfl, by
    have := O4.out
    unfold Own8
    rw [enc4 H.out h0, List.length_append, List.map_append]
    simp only [List.map_cons, List.map_nil, u8v, List.append_assoc, List.cons_append, List.nil_append] at this ⊢
    rw [by8_val (by omega) (by omega), by8_val (by omega) (by omega), by8_val (by omega) (by omega), by8_val (by omega) (by omega)]
    exact this, G4.out⟩
theorem add_any (v : Value) (base : Nat) (xs : List UInt8) (r : Int) (w : World) (hg : Gl w) (hb3 : 2 < base) (hbase : base ≤ w.heap.size) (hown : Own8 w base v xs) (hlen : xs.length ≤ 100000) (h : isB r = true) :
    Calls Tryd.prog 24 #[v, .int .i64 r] w fun e w' => AddS w base v xs r e w' := by
  rcases isB_cases h with ⟨a, b⟩ | ⟨a, b⟩ | ⟨a, b, _⟩ | ⟨a, b⟩
  · exact add_1 v base xs r w hg hb3 hbase hown hlen h a b
  · exact add_2 v base xs r w hg hb3 hbase hown hlen h a b
  · exact add_3 v base xs r w hg hb3 hbase hown hlen h a b
  · exact add_4 v base xs r w hg hb3 hbase hown hlen h a b
end Go.Proofs.YtgahaehnlbkihaaDoor
