/- The contracts of utf16's putLow, putHigh, Units$1, scalarsBy, putAll, Encode, Units. -/
import Derived.Test.YtnalnpidmmkfgaaDoorRE
namespace Go.Proofs.YtnalnpidmmkfgaaDoor
open Go.RowKit
set_option linter.unusedVariables false
set_option linter.unusedSimpArgs false
/-- What a put does to the world: behind it lies as it lay whatever is below base, and each box but Bl, and each slice of numbers made later than Bl. -/
structure Eff (base Bl : Nat) (W W' : World) : Prop where
  below : Below base W W'
  box : ∀ (C : Nat) (t : TypeId) (z : Value), t ≠ 5 → C ≠ Bl → Boxed W C t z → Boxed W' C t z
  row : ∀ (n : Nat) (u : Value) (k : Nat) (zs : List Value), Bl < n → W.ownsRow n 3 1 u k zs → W'.ownsRow n 3 1 u k zs
theorem Eff.refl (base Bl : Nat) (W : World) : Eff base Bl W W := ⟨Below.refl _ _, fun _ _ _ _ _ h => h, fun _ _ _ _ _ h => h⟩
theorem Eff.trans {base Bl : Nat} {A B C : World} (h : Eff base Bl A B) (k : Eff base Bl B C) : Eff base Bl A C :=
  ⟨h.below.trans k.below, fun c t z h1 h2 h3 => k.box c t z h1 h2 (h.box c t z h1 h2 h3), fun n u m zs h1 h2 => k.row n u m zs h1 (h.row n u m zs h1 h2)⟩
theorem rows_apart {W : World} {n m j k : Nat} {u v : Value} {xs ys : List Value} (h : W.ownsRow n 3 1 u j xs) (h2 : W.ownsRow m 5 1 v k ys) : u.ownBlock = none ∨ u.ownBlock ≠ v.ownBlock := by
  rcases h.2 with ⟨rfl, _⟩ | ⟨g, cap, cur, rfl, _, hg, _⟩
  · exact .inl rfl
  · rcases h2.2 with ⟨rfl, _⟩ | ⟨g2, cap2, cur2, rfl, _, hg2, _⟩
    · right; simp [Value.ownBlock]
    · right
      intro e
      have : g = g2 := by simpa [Value.ownBlock] using e
      subst this
      rw [hg] at hg2
      simp at hg2
/-- The box Bl holds a slice of bytes of the call's own, which are xs. -/
def BInv (W : World) (base Bl : Nat) (xs : List UInt8) : Prop := ∃ v, Boxed W Bl 46 v ∧ Own8 W base v xs
def PutS16 (W : World) (base Bl : Nat) (ys : List UInt8) (e : Ending) (W' : World) : Prop := e = .returned (.tuple #[]) ∧ BInv W' base Bl ys ∧ Eff base Bl W W'
theorem put_eff {W w1 : World} {base Bl g cap n : Nat} {v : Value} {xs : List UInt8} {tmp : Obj} {a b : Int} (hv : Boxed W Bl 46 v) (hown : Own8 W base v xs) (hbase : base ≤ W.heap.size) (hBl : base ≤ Bl)
    (h1 : w1.ownsRow base 5 1 (.slice (some ⟨g, 0, none⟩) n cap) n (xs.map u8v ++ [.int .u8 a, .int .u8 b])) (hgrow : (W.alloc tmp).grownBy w1 v.ownBlock) (hn : n = xs.length + 2) (ha : 0 ≤ a) (ha1 : a < 256) (hb : 0 ≤ b) (hb1 : b < 256) :
    (w1.cell? ⟨Bl, 0, none⟩ = some v ∧ w1.frozen? ⟨Bl, 0, none⟩ = false) ∧ BInv (w1.setCell ⟨Bl, 0, none⟩ (.slice (some ⟨g, 0, none⟩) n cap)) base Bl (xs ++ [by8 a, by8 b]) ∧ Eff base Bl W (w1.setCell ⟨Bl, 0, none⟩ (.slice (some ⟨g, 0, none⟩) n cap)) := by
  obtain ⟨b1, b2, b3, b4, b5⟩ := hv.appended (by decide) hown hbase hBl h1 hgrow
  refine ⟨⟨b1.cell, b1.frozen⟩, ⟨_, b2, own8_app b3 hn ha ha1 hb hb1⟩, b5, ?_, ?_⟩
  · intro C t z ht hC hz
    exact ((hz.alloc tmp).kept hgrow (hz.not_row ht hown)).other hC _
  · intro n' u k zs hn' hu
    have h2 : w1.ownsRow n' 3 1 u k zs := (hu.alloc tmp).kept hgrow (rows_apart hu hown)
    exact ownsRow_setCell h2 b1 (by decide) _
theorem putLow_any (base Bl : Nat) (xs : List UInt8) (u : Int) (W : World) (hbase : base ≤ W.heap.size) (hBl : base ≤ Bl) (hI : BInv W base Bl xs) (hlen : xs.length ≤ 100000) (h0 : 0 ≤ u) (h1 : u < 65536) :
    Calls Tryd.prog 26 #[.pointer (some ⟨Bl, 0, none⟩), .int .i64 u] W fun e w' => PutS16 W base Bl (xs ++ two false u) e w' := by
  obtain ⟨i0, hi, hz0, hz1, hz2⟩ := info_parts info5
  obtain ⟨v, hv, hown⟩ := hI
  have HV := Lib.hid hv
  have HO := Lib.hid hown
  have hc := hv.cell
  clear hv hown
  have hw0 : IntKind.u8.wrap u = u % 256 := by rw [IntKind.wrap_u8]
  have hw1 : IntKind.u8.wrap (u / 256) = u / 256 := by rw [IntKind.wrap_u8]; omega
  go_enter Tryd.func26, Tryd.ntmps26
  go_wp2_with (at_builtin; refine wpList_append_lies _ rfl _ _ _ rfl base 5 i0 _ 1 1 Tryd.underlying34 hi hz0 hz1 hz2 rfl (by omega) v xs.length (xs.map u8v) rfl (World.ownsRow.alloc HO.out _) ⟨W.heap.size, 0, none⟩ 2 2 [_, _] rfl rfl (World.news_of_block (t := 5) (fr := (0, 0)) (heap_alloc_new W _)) (by simp [Value.oneCell']) (by omega) (by unfold maxLen; omega) (by omega) (by simp; omega) (W.heap.size + 1) (by simp) ?_; intro g1 cap1 w1 hown1 hgrow1 hat1 hlt1; obtain ⟨⟨c1, f1⟩, t1, e1⟩ := put_eff HV.out HO.out hbase hBl hown1 hgrow1 rfl (by omega) (by omega) (by omega) (by omega); have T1 := Lib.hid t1; have E1 := Lib.hid e1; clear hown1 hgrow1 hat1 hlt1 t1 e1)
  go_end0
  exact ⟨rfl, T1.out, E1.out⟩
theorem putHigh_any (base Bl : Nat) (xs : List UInt8) (u : Int) (W : World) (hbase : base ≤ W.heap.size) (hBl : base ≤ Bl) (hI : BInv W base Bl xs) (hlen : xs.length ≤ 100000) (h0 : 0 ≤ u) (h1 : u < 65536) :
    Calls Tryd.prog 27 #[.pointer (some ⟨Bl, 0, none⟩), .int .i64 u] W fun e w' => PutS16 W base Bl (xs ++ two true u) e w' := by
  obtain ⟨i0, hi, hz0, hz1, hz2⟩ := info_parts info5
  obtain ⟨v, hv, hown⟩ := hI
  have HV := Lib.hid hv
  have HO := Lib.hid hown
  have hc := hv.cell
  clear hv hown
  have hw0 : IntKind.u8.wrap u = u % 256 := by rw [IntKind.wrap_u8]
  have hw1 : IntKind.u8.wrap (u / 256) = u / 256 := by rw [IntKind.wrap_u8]; omega
  go_enter Tryd.func27, Tryd.ntmps27
  go_wp2_with (at_builtin; refine wpList_append_lies _ rfl _ _ _ rfl base 5 i0 _ 1 1 Tryd.underlying34 hi hz0 hz1 hz2 rfl (by omega) v xs.length (xs.map u8v) rfl (World.ownsRow.alloc HO.out _) ⟨W.heap.size, 0, none⟩ 2 2 [_, _] rfl rfl (World.news_of_block (t := 5) (fr := (0, 0)) (heap_alloc_new W _)) (by simp [Value.oneCell']) (by omega) (by unfold maxLen; omega) (by omega) (by simp; omega) (W.heap.size + 1) (by simp) ?_; intro g1 cap1 w1 hown1 hgrow1 hat1 hlt1; obtain ⟨⟨c1, f1⟩, t1, e1⟩ := put_eff HV.out HO.out hbase hBl hown1 hgrow1 rfl (by omega) (by omega) (by omega) (by omega); have T1 := Lib.hid t1; have E1 := Lib.hid e1; clear hown1 hgrow1 hat1 hlt1 t1 e1)
  go_end0
  exact ⟨rfl, T1.out, E1.out⟩
/-- The box Bl holds a number. -/
def CInv (W : World) (base Bl : Nat) (c : Nat) : Prop := Boxed W Bl 3 (.int .i64 (c : Int))
def PutC (W : World) (base Bl : Nat) (c : Nat) (e : Ending) (W' : World) : Prop := e = .returned (.tuple #[]) ∧ CInv W' base Bl c ∧ Eff base Bl W W'
theorem count_any (base Bl : Nat) (c : Nat) (u : Int) (W : World) (hbase : base ≤ W.heap.size) (hBl : base ≤ Bl) (hI : CInv W base Bl c) (hlen : c ≤ 100000) (h0 : 0 ≤ u) (h1 : u < 65536) :
    Calls Tryd.prog 30 #[.int .i64 u, .pointer (some ⟨Bl, 0, none⟩)] W fun e w' => PutC W base Bl (c + 1) e w' := by
  have HI := Lib.hid hI
  have hc : W.cell? ⟨Bl, 0, none⟩ = some (.int .i64 (c : Int)) := Boxed.cell hI
  have hf : W.frozen? ⟨Bl, 0, none⟩ = false := Boxed.frozen hI
  clear hI
  go_enter Tryd.func30, Tryd.ntmps30
  go_wp2_with fail
  go_end0
  exact ⟨rfl, Boxed.set _ HI.out, (Below.refl base W).setCell (p := ⟨Bl, 0, none⟩) hBl _, fun C t z _ hC hz => hz.other hC _, fun n u k zs hn hu => hu.kept (grownBy_setCell' W Bl _) (by
    rcases hu.2 with ⟨rfl, _⟩ | ⟨g, cap, cur, rfl, hb, hg, _⟩
    · exact .inl rfl
    · right
      intro e
      have : g = Bl := by simpa [Value.ownBlock] using e
      omega)⟩
theorem scalarsBy_any (fn : Fn) (first cap : Array Value) (W : World) : Calls Tryd.prog 38 #[.func fn first cap] W fun e w' => e = .returned (.func (.func 44) #[] #[.pointer (some ⟨W.heap.size, 0, none⟩)]) ∧ w' = W.alloc (.cells #[.func fn first cap] 47) := by
  have hmf : ∀ (fn : Fn) (first cap : Array Value) (w : World), (Instr.makeFunc fn first cap).run Tryd.prog w = .ok (.func fn first cap) w := fun _ _ _ _ => rfl
  go_enter Tryd.func38, Tryd.ntmps38
  go_wp2_with fail
  go_ret
  exact ⟨rfl, rfl⟩
theorem sc_low (base Bl Bp : Nat) (xs : List UInt8) (r : Int) (W : World) (hbase : base ≤ W.heap.size) (hBl : base ≤ Bl) (hI : BInv W base Bl (xs)) (hp : Boxed W Bp 47 (.func (.func 26) #[.pointer (some ⟨Bl, 0, none⟩)] #[])) (hne : Bp ≠ Bl) (hlen : xs.length ≤ 90000) (hr : isB r = true) :
    Calls Tryd.prog 44 #[.int .i64 r, .pointer (some ⟨Bp, 0, none⟩)] W fun e w' => PutS16 W base Bl (xs ++ e16 false r) e w' := by
  have hb := isB_iff.1 hr
  have hc := hp.cell
  clear hr
  by_cases hr : r < 65536
  · have HP := Lib.hid (putLow_any base Bl xs r W hbase hBl hI (by omega) hb.1 hr)
    have HE : Hid ((xs ++ e16 false r) = xs ++ two false r) := Lib.hid (by rw [e16_1 false hr])
    clear hI hp
    go_enter Tryd.func44, Tryd.ntmps44
    go_wp2_with (go_at_call 26; refine HP.out.mono ?_; rintro e w1 ⟨rfl, hi1, he1⟩; have HI1 := Lib.hid hi1; have HE1 := Lib.hid he1; clear hi1 he1)
    go_end0
    (try go_wp2_with fail)
    (try go_end0)
    exact ⟨rfl, by rw [HE.out]; exact HI1.out, HE1.out⟩
  · have ho1 : bits .or .i64 55296 ((r - 65536) / 1024) = 55296 + (r - 65536) / 1024 := or10 _ _ (by omega) (by omega) (by omega) (by omega) (by omega)
    have ha1 : bits .and .i64 (r - 65536) 1023 = (r - 65536) % 1024 := and10 _ (by omega) (by omega)
    have ho2 : bits .or .i64 56320 ((r - 65536) % 1024) = 56320 + (r - 65536) % 1024 := or10 _ _ (by omega) (by omega) (by omega) (by omega) (by omega)
    have HP := Lib.hid (putLow_any base Bl xs (55296 + (r - 65536) / 1024) W hbase hBl hI (by omega) (by omega) (by omega))
    have HP2 : Hid (∀ w1, base ≤ w1.heap.size → BInv w1 base Bl (xs ++ two false (55296 + (r - 65536) / 1024)) → Calls Tryd.prog 26 #[.pointer (some ⟨Bl, 0, none⟩), .int .i64 (56320 + (r - 65536) % 1024)] w1 fun e w' => PutS16 w1 base Bl (xs ++ e16 false r) e w') := Lib.hid (fun w1 h1 h2 => by
      rw [e16_2 false (by omega), ← List.append_assoc]; exact putLow_any base Bl _ (56320 + (r - 65536) % 1024) w1 h1 hBl h2 (by rw [List.length_append, two_len]; omega) (by omega) (by omega))
    have HQ := Lib.hid hp
    clear hI hp
    go_enter Tryd.func44, Tryd.ntmps44
    go_wp2_with (first
      | (go_at_call 26; refine HP.out.mono ?_; rintro e w1 ⟨rfl, hi1, he1⟩; have HI1 := Lib.hid hi1; have HE1 := Lib.hid he1; have hc1 := (he1.box Bp 47 _ (by decide) hne HQ.out).cell; have hz1 : base ≤ w1.heap.size := (by have := he1.below.size; omega); clear hi1 he1 HP)
      | (go_at_call 26; refine (HP2.out _ hz1 HI1.out).mono ?_; rintro e w2 ⟨rfl, hi2, he2⟩; have HI2 := Lib.hid hi2; have HE2 := Lib.hid he2; clear hi2 he2))
    go_end0
    (try go_wp2_with (go_at_call 26; refine (HP2.out _ hz1 HI1.out).mono ?_; rintro e w2 ⟨rfl, hi2, he2⟩; have HI2 := Lib.hid hi2; have HE2 := Lib.hid he2; clear hi2 he2))
    (try go_end0)
    (try go_wp2_with fail)
    (try go_end0)
    exact ⟨rfl, HI2.out, HE1.out.trans HE2.out⟩
theorem sc_high (base Bl Bp : Nat) (xs : List UInt8) (r : Int) (W : World) (hbase : base ≤ W.heap.size) (hBl : base ≤ Bl) (hI : BInv W base Bl (xs)) (hp : Boxed W Bp 47 (.func (.func 27) #[.pointer (some ⟨Bl, 0, none⟩)] #[])) (hne : Bp ≠ Bl) (hlen : xs.length ≤ 90000) (hr : isB r = true) :
    Calls Tryd.prog 44 #[.int .i64 r, .pointer (some ⟨Bp, 0, none⟩)] W fun e w' => PutS16 W base Bl (xs ++ e16 true r) e w' := by
  have hb := isB_iff.1 hr
  have hc := hp.cell
  clear hr
  by_cases hr : r < 65536
  · have HP := Lib.hid (putHigh_any base Bl xs r W hbase hBl hI (by omega) hb.1 hr)
    have HE : Hid ((xs ++ e16 true r) = xs ++ two true r) := Lib.hid (by rw [e16_1 true hr])
    clear hI hp
    go_enter Tryd.func44, Tryd.ntmps44
    go_wp2_with (go_at_call 27; refine HP.out.mono ?_; rintro e w1 ⟨rfl, hi1, he1⟩; have HI1 := Lib.hid hi1; have HE1 := Lib.hid he1; clear hi1 he1)
    go_end0
    (try go_wp2_with fail)
    (try go_end0)
    exact ⟨rfl, by rw [HE.out]; exact HI1.out, HE1.out⟩
  · have ho1 : bits .or .i64 55296 ((r - 65536) / 1024) = 55296 + (r - 65536) / 1024 := or10 _ _ (by omega) (by omega) (by omega) (by omega) (by omega)
    have ha1 : bits .and .i64 (r - 65536) 1023 = (r - 65536) % 1024 := and10 _ (by omega) (by omega)
    have ho2 : bits .or .i64 56320 ((r - 65536) % 1024) = 56320 + (r - 65536) % 1024 := or10 _ _ (by omega) (by omega) (by omega) (by omega) (by omega)
    have HP := Lib.hid (putHigh_any base Bl xs (55296 + (r - 65536) / 1024) W hbase hBl hI (by omega) (by omega) (by omega))
    have HP2 : Hid (∀ w1, base ≤ w1.heap.size → BInv w1 base Bl (xs ++ two true (55296 + (r - 65536) / 1024)) → Calls Tryd.prog 27 #[.pointer (some ⟨Bl, 0, none⟩), .int .i64 (56320 + (r - 65536) % 1024)] w1 fun e w' => PutS16 w1 base Bl (xs ++ e16 true r) e w') := Lib.hid (fun w1 h1 h2 => by
      rw [e16_2 true (by omega), ← List.append_assoc]; exact putHigh_any base Bl _ (56320 + (r - 65536) % 1024) w1 h1 hBl h2 (by rw [List.length_append, two_len]; omega) (by omega) (by omega))
    have HQ := Lib.hid hp
    clear hI hp
    go_enter Tryd.func44, Tryd.ntmps44
    go_wp2_with (first
      | (go_at_call 27; refine HP.out.mono ?_; rintro e w1 ⟨rfl, hi1, he1⟩; have HI1 := Lib.hid hi1; have HE1 := Lib.hid he1; have hc1 := (he1.box Bp 47 _ (by decide) hne HQ.out).cell; have hz1 : base ≤ w1.heap.size := (by have := he1.below.size; omega); clear hi1 he1 HP)
      | (go_at_call 27; refine (HP2.out _ hz1 HI1.out).mono ?_; rintro e w2 ⟨rfl, hi2, he2⟩; have HI2 := Lib.hid hi2; have HE2 := Lib.hid he2; clear hi2 he2))
    go_end0
    (try go_wp2_with (go_at_call 27; refine (HP2.out _ hz1 HI1.out).mono ?_; rintro e w2 ⟨rfl, hi2, he2⟩; have HI2 := Lib.hid hi2; have HE2 := Lib.hid he2; clear hi2 he2))
    (try go_end0)
    (try go_wp2_with fail)
    (try go_end0)
    exact ⟨rfl, HI2.out, HE1.out.trans HE2.out⟩
theorem sc_cnt (base Bl Bp : Nat) (c : Nat) (r : Int) (W : World) (hbase : base ≤ W.heap.size) (hBl : base ≤ Bl) (hI : CInv W base Bl (c)) (hp : Boxed W Bp 47 (.func (.func 30) #[] #[.pointer (some ⟨Bl, 0, none⟩)])) (hne : Bp ≠ Bl) (hlen : c ≤ 90000) (hr : isB r = true) :
    Calls Tryd.prog 44 #[.int .i64 r, .pointer (some ⟨Bp, 0, none⟩)] W fun e w' => PutC W base Bl (c + n16 r) e w' := by
  have hb := isB_iff.1 hr
  have hc := hp.cell
  clear hr
  by_cases hr : r < 65536
  · have HP := Lib.hid (count_any base Bl c r W hbase hBl hI (by omega) hb.1 hr)
    have HE : Hid ((c + n16 r) = c + 1) := Lib.hid (by rw [n16_1 hr])
    clear hI hp
    go_enter Tryd.func44, Tryd.ntmps44
    go_wp2_with (go_at_call 30; refine HP.out.mono ?_; rintro e w1 ⟨rfl, hi1, he1⟩; have HI1 := Lib.hid hi1; have HE1 := Lib.hid he1; clear hi1 he1)
    go_end0
    (try go_wp2_with fail)
    (try go_end0)
    exact ⟨rfl, by rw [HE.out]; exact HI1.out, HE1.out⟩
  · have ho1 : bits .or .i64 55296 ((r - 65536) / 1024) = 55296 + (r - 65536) / 1024 := or10 _ _ (by omega) (by omega) (by omega) (by omega) (by omega)
    have ha1 : bits .and .i64 (r - 65536) 1023 = (r - 65536) % 1024 := and10 _ (by omega) (by omega)
    have ho2 : bits .or .i64 56320 ((r - 65536) % 1024) = 56320 + (r - 65536) % 1024 := or10 _ _ (by omega) (by omega) (by omega) (by omega) (by omega)
    have HP := Lib.hid (count_any base Bl c (55296 + (r - 65536) / 1024) W hbase hBl hI (by omega) (by omega) (by omega))
    have HP2 : Hid (∀ w1, base ≤ w1.heap.size → CInv w1 base Bl (c + 1) → Calls Tryd.prog 30 #[.int .i64 (56320 + (r - 65536) % 1024), .pointer (some ⟨Bl, 0, none⟩)] w1 fun e w' => PutC w1 base Bl (c + n16 r) e w') := Lib.hid (fun w1 h1 h2 => by
      rw [n16_2 (by omega)]; exact count_any base Bl _ (56320 + (r - 65536) % 1024) w1 h1 hBl h2 (by omega) (by omega) (by omega))
    have HQ := Lib.hid hp
    clear hI hp
    go_enter Tryd.func44, Tryd.ntmps44
    go_wp2_with (first
      | (go_at_call 30; refine HP.out.mono ?_; rintro e w1 ⟨rfl, hi1, he1⟩; have HI1 := Lib.hid hi1; have HE1 := Lib.hid he1; have hc1 := (he1.box Bp 47 _ (by decide) hne HQ.out).cell; have hz1 : base ≤ w1.heap.size := (by have := he1.below.size; omega); clear hi1 he1 HP)
      | (go_at_call 30; refine (HP2.out _ hz1 HI1.out).mono ?_; rintro e w2 ⟨rfl, hi2, he2⟩; have HI2 := Lib.hid hi2; have HE2 := Lib.hid he2; clear hi2 he2))
    go_end0
    (try go_wp2_with (go_at_call 30; refine (HP2.out _ hz1 HI1.out).mono ?_; rintro e w2 ⟨rfl, hi2, he2⟩; have HI2 := Lib.hid hi2; have HE2 := Lib.hid he2; clear hi2 he2))
    (try go_end0)
    (try go_wp2_with fail)
    (try go_end0)
    exact ⟨rfl, HI2.out, HE1.out.trans HE2.out⟩
end Go.Proofs.YtnalnpidmmkfgaaDoor
