/- The contracts of the document's own Valid, put, Encode, Units of layer 3. -/
import Derived.Test.YtnalnpidmmkfgaaDoorRD
namespace Go.Proofs.YtnalnpidmmkfgaaDoor
open Go.RowKit
set_option linter.unusedVariables false
set_option linter.unusedSimpArgs false
theorem Ints.form {w : World} {v : Value} {xs : List Int} (h : Ints w v xs) : ∃ p cap, v = .slice p xs.length cap := by
  rcases h with ⟨rfl, p, cap, rfl⟩ | ⟨b, off, cap, rfl, _⟩
  · exact ⟨p, cap, rfl⟩
  · exact ⟨_, cap, rfl⟩
theorem ok_or_len (l : List UInt8) (b : Bool) (h : okB l = b) : (if b = true then scl l else []).length ≤ l.length := by
  cases b with
  | false => simp
  | true =>
    obtain ⟨h1, h2⟩ := ok_back _ l (Nat.le_refl _) h
    rw [if_pos rfl]
    have : ∀ xs : List Int, allB xs = true → xs.length ≤ (encs xs).length := by
      intro xs
      induction xs with
      | nil => simp
      | cons x xs ih =>
        intro hx
        obtain ⟨a, b⟩ := (allB_cons x xs).1 hx
        rw [encs_cons]
        have := enc_pos a
        have := ih b
        simp only [List.length_append, List.length_cons]
        omega
    have := this _ h1
    rwa [h2] at this
theorem rvalid16_any (s : ByteArray) (big : Bool) (w : World) (hs : s.size ≤ 10000) : Calls Tryd.prog 15 #[.string s, .bool big] w fun e w' => RetB (ok16 big s.data.toList) w e w' := by
  have hd := Lib.hid (rdecode_any s big w hs)
  have HB : Hid (∀ n, n = (b16 big s.data.toList).length → ((n : Int) == 0) = ok16 big s.data.toList) := Lib.hid (fun n hn => by
    rw [Bool.eq_iff_iff, ← b16_nil, hn]
    simp)
  go_enter Tryd.func15, Tryd.ntmps15
  go_wp2_with (go_at_call 10; refine hd.out.mono ?_; rintro e w1 ⟨v, rfl, hO, hb⟩; have HBe := Lib.hid hb; obtain ⟨p, cap, rfl⟩ := own_form hO; clear hO hb)
  go_ret
  exact ⟨ret_bool (HB.out _ rfl), HBe.out⟩
theorem own8_app {w : World} {base : Nat} {v : Value} {xs : List UInt8} {a b : Int} {n : Nat} (h : w.ownsRow base 5 1 v n (xs.map u8v ++ [.int .u8 a, .int .u8 b])) (hn : n = xs.length + 2) (ha : 0 ≤ a) (ha1 : a < 256) (hb : 0 ≤ b) (hb1 : b < 256) : Own8 w base v (xs ++ [by8 a, by8 b]) := by
  unfold Own8
  rw [List.length_append, List.map_append]
  simp only [List.map_cons, List.map_nil, u8v]
  rw [by8_val ha ha1, by8_val hb hb1]
  subst hn
  exact h
def Put16S (w : World) (base : Nat) (v : Value) (ys : List UInt8) (e : Ending) (w' : World) : Prop :=
  ∃ v', e = .returned v' ∧ Own8 w' base v' ys ∧ w.grownBy w' v.ownBlock
theorem rput16_lo (v : Value) (base : Nat) (xs : List UInt8) (u : Int) (w : World) (hbase : base ≤ w.heap.size) (hown : Own8 w base v xs) (hlen : xs.length ≤ 100000) (h0 : 0 ≤ u) (h1 : u < 65536) :
    Calls Tryd.prog 29 #[v, .int .i64 u, .bool false] w fun e w' => Put16S w base v (xs ++ two false u) e w' := by
  obtain ⟨i0, hi, hz0, hz1, hz2⟩ := info_parts info5
  have HO := Lib.hid hown; clear hown
  have hw0 : IntKind.u8.wrap (u / 256) = u / 256 := by rw [IntKind.wrap_u8]; omega
  have hw1 : IntKind.u8.wrap (u % 256) = u % 256 := by rw [IntKind.wrap_u8]; omega
  go_enter Tryd.func29, Tryd.ntmps29
  go_wp2_with (at_builtin; refine wpList_append_lies _ rfl _ _ _ rfl base 5 i0 _ 1 1 Tryd.underlying34 hi hz0 hz1 hz2 rfl (by omega) v xs.length (xs.map u8v) rfl (World.ownsRow.alloc HO.out _) ⟨w.heap.size, 0, none⟩ 2 2 [_, _] rfl rfl (World.news_of_block (t := 5) (fr := (0, 0)) (heap_alloc_new w _)) (by simp [Value.oneCell']) (by omega) (by unfold maxLen; omega) (by omega) (by simp; omega) (w.heap.size + 1) (by simp) ?_; intro g1 cap1 w1 hown1 hgrow1 hat1 hlt1; have O1 := Lib.hid hown1; have G1 := Lib.hid hgrow1; clear hown1 hgrow1 hat1 hlt1)
  go_ret
  exact ⟨_, rfl, own8_app O1.out rfl (by omega) (by omega) (by omega) (by omega), grown_trans (World.grownBy_alloc w _ _) G1.out (.inl rfl)⟩
theorem rput16_hi (v : Value) (base : Nat) (xs : List UInt8) (u : Int) (w : World) (hbase : base ≤ w.heap.size) (hown : Own8 w base v xs) (hlen : xs.length ≤ 100000) (h0 : 0 ≤ u) (h1 : u < 65536) :
    Calls Tryd.prog 29 #[v, .int .i64 u, .bool true] w fun e w' => Put16S w base v (xs ++ two true u) e w' := by
  obtain ⟨i0, hi, hz0, hz1, hz2⟩ := info_parts info5
  have HO := Lib.hid hown; clear hown
  have hw0 : IntKind.u8.wrap (u / 256) = u / 256 := by rw [IntKind.wrap_u8]; omega
  have hw1 : IntKind.u8.wrap (u % 256) = u % 256 := by rw [IntKind.wrap_u8]; omega
  go_enter Tryd.func29, Tryd.ntmps29
  go_wp2_with (at_builtin; refine wpList_append_lies _ rfl _ _ _ rfl base 5 i0 _ 1 1 Tryd.underlying34 hi hz0 hz1 hz2 rfl (by omega) v xs.length (xs.map u8v) rfl (World.ownsRow.alloc HO.out _) ⟨w.heap.size, 0, none⟩ 2 2 [_, _] rfl rfl (World.news_of_block (t := 5) (fr := (0, 0)) (heap_alloc_new w _)) (by simp [Value.oneCell']) (by omega) (by unfold maxLen; omega) (by omega) (by simp; omega) (w.heap.size + 1) (by simp) ?_; intro g1 cap1 w1 hown1 hgrow1 hat1 hlt1; have O1 := Lib.hid hown1; have G1 := Lib.hid hgrow1; clear hown1 hgrow1 hat1 hlt1)
  go_ret
  exact ⟨_, rfl, own8_app O1.out rfl (by omega) (by omega) (by omega) (by omega), grown_trans (World.grownBy_alloc w _ _) G1.out (.inl rfl)⟩
theorem rput16_any (v : Value) (base : Nat) (xs : List UInt8) (u : Int) (big : Bool) (w : World) (hbase : base ≤ w.heap.size) (hown : Own8 w base v xs) (hlen : xs.length ≤ 100000) (h0 : 0 ≤ u) (h1 : u < 65536) :
    Calls Tryd.prog 29 #[v, .int .i64 u, .bool big] w fun e w' => Put16S w base v (xs ++ two big u) e w' := by
  cases big
  · exact rput16_lo v base xs u w hbase hown hlen h0 h1
  · exact rput16_hi v base xs u w hbase hown hlen h0 h1
def Enc16S (w : World) (big : Bool) (l : List UInt8) (e : Ending) (w' : World) : Prop :=
  e = .returned (.tuple #[.string (str (if okB l = true then es16 big (scl l) else [])), .int .i64 (if okB l = true then 0 else 70)]) ∧ Below w.heap.size w w'
theorem enc16_bad {w w' : World} {big : Bool} {l : List UInt8} (h : okB l = false) (hb : Below w.heap.size w w') : Enc16S w big l (.returned (.tuple #[.string ⟨#[]⟩, .int .i64 70])) w' := by
  refine ⟨?_, hb⟩; rw [h]; rfl
theorem enc16_good {w w' : World} {big : Bool} {l : List UInt8} (h : okB l = true) (hb : Below w.heap.size w w') : Enc16S w big l (.returned (.tuple #[.string (str (es16 big (scl l))), .int .i64 0])) w' := by
  refine ⟨?_, hb⟩; rw [h]; rfl
theorem own_cells {w : World} {base g n cap : Nat} {xs : List Int} (h : OwnI w base (.slice (some ⟨g, 0, none⟩) n cap) xs) : g < w.heap.size ∧ ∀ k (hk : k < xs.length), w.cell? ⟨g, k, none⟩ = some (.int .i64 xs[k]) := by
  refine ⟨(World.ownsRow.lt h g rfl).2, fun k hk => ?_⟩
  have hc := (World.ownsRow.cells (g := g) h rfl) k (.int .i64 xs[k]) (by simp [hk])
  have hadd : (⟨g, 0, none⟩ : Addr).add k = ⟨g, k, none⟩ := by unfold Addr.add; split <;> simp_all
  rwa [hadd] at hc
theorem es16_few (big : Bool) (xs : List Int) : (es16 big xs).length ≤ 4 * xs.length := by
  rw [es16_len]; have := (ns16_le xs).2; omega
theorem es16_take (big : Bool) {xs : List Int} {k : Nat} (h : k < xs.length) : es16 big (xs.take (k + 1)) = es16 big (xs.take k) ++ e16 big xs[k] := by
  rw [List.take_succ_eq_append_getElem h, es16_app]; simp [es16]
theorem all_get {xs : List Int} (h : allB xs = true) {k : Nat} (hk : k < xs.length) : isB xs[k] = true := by
  simp only [allB, List.all_eq_true] at h
  exact h _ (List.getElem_mem hk)
set_option maxRecDepth 100000 in
set_option maxHeartbeats 2000000 in
theorem renc_any (s : ByteArray) (big : Bool) (w : World) (hs : s.size ≤ 10000) : Calls Tryd.prog 12 #[.string s, .bool big] w fun e w' => Enc16S w big s.data.toList e w' := by
  have hsz : s.data.toList.length = s.size := by simp
  have hv := rvalid_any s w (by omega)
  have hsc := fun w1 => rscal_any s w1 (by omega)
  obtain ⟨l, hl⟩ : ∃ l, s.data.toList = l := ⟨_, rfl⟩
  rw [hl] at hv hsz ⊢
  simp only [hl] at hsc
  clear hl
  cases hok : okB l
  · rw [hok] at hv
    have HV := Lib.hid hv
    have HE : Hid (∀ w1, Below w.heap.size w w1 → Enc16S w big l (.returned (.tuple #[.string ⟨#[]⟩, .int .i64 70])) w1) := Lib.hid (fun w1 hb => enc16_bad hok hb)
    clear hv hsc hok
    go_enter Tryd.func12, Tryd.ntmps12
    go_wp2_with (go_at_call 18; refine HV.out.mono ?_; rintro e w1 ⟨rfl, hb1⟩; have HB1 := Lib.hid hb1; clear hb1)
    go_ret2
    exact HE.out _ HB1.out
  · rw [hok] at hv
    have HV := Lib.hid hv
    have hlen := ok_or_len l true hok
    rw [if_pos rfl] at hlen
    have hall := (ok_back _ l (Nat.le_refl _) hok).1
    have HE : Hid (∀ w1, Below w.heap.size w w1 → Enc16S w big l (.returned (.tuple #[.string (str (es16 big (scl l))), .int .i64 0])) w1) := Lib.hid (fun w1 hb => enc16_good hok hb)
    unfold ScalS at hsc
    simp only [hok, reduceIte] at hsc
    obtain ⟨xs, hxs⟩ : ∃ xs, scl l = xs := ⟨_, rfl⟩
    simp only [hxs] at hsc hlen hall HE
    have HSC := Lib.hid hsc
    clear hv hsc hok hxs
    by_cases hx : xs = []
    · subst hx
      go_enter Tryd.func12, Tryd.ntmps12
      go_wp2_with (first
        | (go_at_call 18; refine HV.out.mono ?_; rintro e w1 ⟨rfl, hb1⟩; have HB1 := Lib.hid hb1; clear hb1)
        | (go_at_call 19; refine (HSC.out _).mono ?_; rintro e w2 ⟨u2, rfl, ho2, hb2⟩; have HB2 : Hid (Below w.heap.size w w2) := Lib.hid (below_call HB1.out hb2); obtain ⟨p2, cap2, rfl⟩ := (ints_of_own ho2).form; have hconv := conv_own (own_nil w2 0); clear ho2 hb2))
      refine wp_loop_rounds 1 ?_; rw [rounds_succ]
      go_wp2_with fail
      go_ret2
      exact HE.out _ HB2.out
    · have hN0 : 0 < xs.length := List.length_pos_iff.2 hx
      obtain ⟨N, HN⟩ : ∃ N, Hid (xs.length = N) := ⟨_, Lib.hid rfl⟩
      have hN1 : 0 < N := by rw [← HN.out]; exact hN0
      have hN : N ≤ 10000 := by rw [← HN.out]; omega
      have HALL := Lib.hid hall
      have HSC2 : Hid (∀ w1, Calls Tryd.prog 19 #[.string s] w1 fun e w' => ∃ g cap, e = .returned (.tuple #[.slice (some ⟨g, 0, none⟩) N cap, .bool true]) ∧ OwnI w' w1.heap.size (.slice (some ⟨g, 0, none⟩) N cap) xs ∧ Below w1.heap.size w1 w') := Lib.hid (fun w1 => (HSC.out w1).mono (by
        rintro e w' ⟨v, he, ho, hb⟩
        obtain ⟨g, cap, rfl, _⟩ := World.ownsRow.form ho hN0
        rw [HN.out] at he ho
        exact ⟨g, cap, he, ho, hb⟩))
      clear hx hN0 hlen hall HSC
      go_enter Tryd.func12, Tryd.ntmps12
      go_wp2_with (first
        | (go_at_call 18; refine HV.out.mono ?_; rintro e w1 ⟨rfl, hb1⟩; have HB1 := Lib.hid hb1; clear hb1)
        | (go_at_call 19; refine (HSC2.out _).mono ?_; rintro e w2 ⟨g, cap, rfl, ho2, hb2⟩; have HB2 : Hid (Below w.heap.size w w2) := Lib.hid (below_call HB1.out hb2); have HC := Lib.hid (own_cells ho2); clear ho2 hb2))
      go_loopg [6, 9] (N + 1) (fun gg q6 q9 wr => ∃ (u : Value) (k : Nat), u = q6 ∧ k + gg = N + 1 ∧ q9 = .int .i64 k ∧ k ≤ N ∧ Hid (Own8 wr w2.heap.size q6 (es16 big (xs.take k))) ∧ Hid (Below w2.heap.size w2 wr))
      case atStart => exact ⟨_, 0, rfl, by omega, rfl, by omega, Lib.hid (own_nil _ _), Lib.hid (Below.refl _ _)⟩
      case round =>
        obtain ⟨u, k, rfl, hkg, rfl, hkN, HO, HB⟩ := hrel
        have hwz := HB.out.size
        by_cases hk : k < N
        · have hk' : k < xs.length := by rw [HN.out]; exact hk
          have hcell : wr.cell? ⟨g, k, none⟩ = some (.int .i64 xs[k]) := (HB.out.cell (p := ⟨g, k, none⟩) HC.out.1).trans (HC.out.2 k hk')
          have hf : (es16 big (xs.take k)).length ≤ 4 * k := by
            have := es16_few big (xs.take k); have := List.length_take_le k xs; omega
          have HX : Hid (es16 big (xs.take (k + 1)) = es16 big (xs.take k) ++ e16 big xs[k]) := Lib.hid (es16_take big hk')
          have hb := isB_iff.1 (all_get HALL.out hk')
          obtain ⟨r, hr⟩ : ∃ r, xs[k] = r := ⟨_, rfl⟩
          rw [hr] at hcell hb
          have HX2 : Hid (es16 big (xs.take (k + 1)) = es16 big (xs.take k) ++ e16 big r) := Lib.hid (by rw [HX.out, hr])
          clear HX hr hk'
          by_cases hr : r < 65536
          · have HP := Lib.hid (rput16_any u w2.heap.size (es16 big (xs.take k)) r big wr hwz HO.out (by omega) hb.1 hr)
            have HY : Hid (es16 big (xs.take (k + 1)) = es16 big (xs.take k) ++ two big r) := Lib.hid (by rw [HX2.out, e16_1 big hr])
            clear HX2
            go_wp2_with (go_at_call 29; refine HP.out.mono ?_; rintro e w3 ⟨v3, rfl, ho3, hg3⟩; have HO3 : Hid (Own8 w3 w2.heap.size v3 (es16 big (xs.take (k + 1)))) := Lib.hid (by rw [HY.out]; exact ho3); have HB3 : Hid (Below w2.heap.size w2 w3) := Lib.hid (HB.out.grown hg3 hwz (fun j e => (World.ownsRow.lt HO.out j e).1)); clear ho3 hg3)
            go_roundg (gk - 1)
            case measure => omega
            case rel => exact ⟨_, k + 1, rfl, by omega, by go_num, by omega, HO3, HB3⟩
          · have HP := Lib.hid (rput16_any u w2.heap.size (es16 big (xs.take k)) (55296 + (r - 65536) / 1024) big wr hwz HO.out (by omega) (by omega) (by omega))
            have HY : Hid (es16 big (xs.take (k + 1)) = (es16 big (xs.take k) ++ two big (55296 + (r - 65536) / 1024)) ++ two big (56320 + (r - 65536) % 1024)) := Lib.hid (by rw [HX2.out, e16_2 big (by omega), List.append_assoc])
            have HL1 : Hid ((es16 big (xs.take k) ++ two big (55296 + (r - 65536) / 1024)).length ≤ 100000) := Lib.hid (by rw [List.length_append, two_len]; omega)
            have HP2 : Hid (∀ v3 w3, w2.heap.size ≤ w3.heap.size → Own8 w3 w2.heap.size v3 (es16 big (xs.take k) ++ two big (55296 + (r - 65536) / 1024)) → Calls Tryd.prog 29 #[v3, .int .i64 (56320 + (r - 65536) % 1024), .bool big] w3 fun e w' => Put16S w3 w2.heap.size v3 (es16 big (xs.take (k + 1))) e w') := Lib.hid (fun v3 w3 h1 h2 => by
              rw [HY.out]; exact rput16_any v3 w2.heap.size _ _ big w3 h1 h2 HL1.out (by omega) (by omega))
            clear HX2 HY HL1
            go_wp2_with (first
              | (go_at_call 29; refine HP.out.mono ?_; rintro e w3 ⟨v3, rfl, ho3, hg3⟩; have HO3 := Lib.hid ho3; have HB3 : Hid (Below w2.heap.size w2 w3) := Lib.hid (HB.out.grown hg3 hwz (fun j e => (World.ownsRow.lt HO.out j e).1)); have hwz3 := hg3.size; clear ho3 hg3 HP)
              | (go_at_call 29; refine (HP2.out _ _ (by omega) HO3.out).mono ?_; rintro e w4 ⟨v4, rfl, ho4, hg4⟩; have HO4 := Lib.hid ho4; have HB4 : Hid (Below w2.heap.size w2 w4) := Lib.hid (HB3.out.grown hg4 (by omega) (fun j e => (World.ownsRow.lt HO3.out j e).1)); clear ho4 hg4))
            go_roundg (gk - 1)
            case measure => omega
            case rel => exact ⟨_, k + 1, rfl, by omega, by go_num, by omega, HO4, HB4⟩
        · have hO : Own8 wr w2.heap.size u (es16 big xs) := by
            have := HO.out
            rwa [List.take_of_length_le (by rw [HN.out]; omega)] at this
          have hconv := conv_own hO
          have HBx : Hid (Below w.heap.size w wr) := Lib.hid (HB2.out.trans (HB.out.mono HB2.out.size))
          clear hO
          go_wp2_with fail
          go_ret2
          exact HE.out _ HBx.out
theorem runits_any (s : ByteArray) (w : World) (hs : s.size ≤ 10000) : Calls Tryd.prog 17 #[.string s] w fun e w' => RetI (if okB s.data.toList = true then (ns16 (scl s.data.toList) : Int) else 0) w e w' := by
  have he := renc_any s false w hs
  unfold Enc16S at he
  obtain ⟨ys, hys⟩ : ∃ ys, (if okB s.data.toList = true then es16 false (scl s.data.toList) else []) = ys := ⟨_, rfl⟩
  obtain ⟨c, hc⟩ : ∃ c, (if okB s.data.toList = true then (0 : Int) else 70) = c := ⟨_, rfl⟩
  rw [hys, hc] at he
  have hlen : ys.length ≤ 40000 := by
    rw [← hys]
    cases hok : okB s.data.toList
    · simp
    · have h1 := ok_or_len _ true hok
      have h2 := es16_few false (scl s.data.toList)
      have h3 : s.data.toList.length = s.size := by simp
      rw [if_pos rfl] at h1 ⊢
      omega
  have hL : ((str ys).size : Int) / 2 = if okB s.data.toList = true then (ns16 (scl s.data.toList) : Int) else 0 := by
    rw [str_size, ← hys]
    split
    · rw [es16_len]; omega
    · simp
  have hz : (str ys).size ≤ 40000 := by rw [str_size]; exact hlen
  obtain ⟨n, hn⟩ : ∃ n, (if okB s.data.toList = true then (ns16 (scl s.data.toList) : Int) else 0) = n := ⟨_, rfl⟩
  rw [hn] at hL ⊢
  have HL := Lib.hid hL
  have HE := Lib.hid he
  clear he hys hc hL hn hlen
  go_enter Tryd.func17, Tryd.ntmps17
  go_wp2_with (go_at_call 12; refine HE.out.mono ?_; rintro e w1 ⟨rfl, hb1⟩; have HB1 := Lib.hid hb1; clear hb1)
  go_ret
  exact ⟨by rw [← HL.out]; rfl, HB1.out⟩
end Go.Proofs.YtnalnpidmmkfgaaDoor
