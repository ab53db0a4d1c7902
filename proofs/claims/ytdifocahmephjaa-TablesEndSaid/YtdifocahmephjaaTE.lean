/- The contracts of the rows' methods, wholes, by at both kinds of keys, table and origins. -/
import Derived.Test.YtdifocahmephjaaTD
import Derived.Deep.RegionHeld3
import Derived.Deep.OwnRows
namespace Go.Proofs.Ytdifocahmephjaa.Tab
open Go.RowKit Go.Maps
set_option linter.unusedVariables false
set_option linter.unusedSimpArgs false
theorem okI_wf {r : Int} (h : okI r) : (Lit.int .i64 r).wf = true := by
  obtain ⟨h1, h2⟩ := h
  simp [Lit.wf, IntKind.min, IntKind.max, IntKind.bits, IntKind.signed]
  omega
theorem results_cell1 {fn : Func} {p : Tmp} {ty : TypeId} (h : fn.results = #[.cell p ty]) (tmps : Array Value) (P : Program) (w : World) :
    (results fn tmps).run P w = ((asAddr (tmps.getD p undef)).run P w).andThen fun a w₁ => (loadVar ty a).run P w₁ := by
  simp only [results, h]
  simp [Sem.run_bind, Result.andThen]
theorem whole_of_row (p : Pr) (w : World) : Calls Try.prog 35 #[.agg #[.int .i64 p.1, .int .i64 p.2.1, .int .i64 p.2.2]] w fun e w' => e = .returned (.int .i64 p.1) ∧ Below w.heap.size w w' := by
  obtain ⟨a, b, c⟩ := p
  have HB := Lib.hid ((Below.refl w.heap.size w).alloc (Nat.le_refl _) (.cells #[.int .i64 a, .int .i64 b, .int .i64 c] 40))
  go_enter Try.func35, Try.ntmps35
  go_wp2_with fail
  go_ret
  exact ⟨rfl, HB.out⟩
theorem info2 : (Try.prog.info? 46).map (fun i => (i.zero, i.size)) = some (some (.agg #[.int .i64 0, .int .i64 0]), 2) := by kernel_rfl
theorem load2 {W : World} {R : Nat} {x y : Value} (h : Blk W R #[x, y] 46) : (loadVar 46 ⟨R, 0, none⟩).run Try.prog W = .ok (.agg #[x, y]) W :=
  run_loadVar_row W R 46 46 #[x, y] (0, 0) _ h Try.underlying46 rfl (zero_of_info info2).2
theorem parts_of_row (p : Pr) (w : World) : Calls Try.prog 37 #[.agg #[.int .i64 p.1, .int .i64 p.2.1, .int .i64 p.2.2]] w fun e w' => e = .returned (.agg #[.int .i64 p.2.1, .int .i64 p.2.2]) ∧ Below w.heap.size w w' := by
  obtain ⟨a, b, c⟩ := p
  have HB0 := (Below.refl w.heap.size w).alloc (Nat.le_refl _) (.cells #[.int .i64 a, .int .i64 b, .int .i64 c] 40)
  have HB := Lib.hid (HB0.alloc (by simp) (.cells #[.int .i64 b, .int .i64 c] 46))
  have HK := Lib.hid (Blk.new' (n := w.heap.size + 1) (w.alloc (.cells #[.int .i64 a, .int .i64 b, .int .i64 c] 40)) #[.int .i64 b, .int .i64 c] 46 (by simp))
  clear HB0
  go_enter Try.func37, Try.ntmps37
  go_wp2_with fail
  refine bodyPost_ret (v := .agg #[.int .i64 b, .int .i64 c]) ?_ rfl ⟨rfl, HB.out⟩
  rw [results_cell1 (p := 2) (ty := 46) rfl]
  have hl := load2 HK.out
  simp [asAddr, hl]
/-- u is a slice of rows that reads as l. -/
def Tri (w : World) (u : Value) (l : List Pr) : Prop :=
  ∃ b cap, u = .slice (some ⟨b, 0, none⟩) l.length cap ∧ b < w.heap.size ∧ ∀ i (h : i < l.length), w.cell? ⟨b, i * 3, none⟩ = some (.int .i64 l[i].1) ∧ w.cell? ⟨b, i * 3 + 1, none⟩ = some (.int .i64 l[i].2.1) ∧ w.cell? ⟨b, i * 3 + 2, none⟩ = some (.int .i64 l[i].2.2)
theorem Tri.below {w w' : World} {u : Value} {l : List Pr} (h : Tri w u l) (hb : Below w.heap.size w w') : Tri w' u l := by
  obtain ⟨b, cap, e, hl, hc⟩ := h
  exact ⟨b, cap, e, by have := hb.size; omega, fun i hi => ⟨(hb.cell (p := ⟨b, i * 3, none⟩) hl).trans (hc i hi).1, (hb.cell (p := ⟨b, i * 3 + 1, none⟩) hl).trans (hc i hi).2.1, (hb.cell (p := ⟨b, i * 3 + 2, none⟩) hl).trans (hc i hi).2.2⟩⟩
theorem tri_own {w : World} {base : Nat} {e : TypeId} {u : Value} {l : List Pr} (h : w.ownsRow base e 3 u l.length (cells3 l)) (hne : l ≠ []) : Tri w u l := by
  rcases h.2 with ⟨rfl, h0⟩ | ⟨g, cap, cur, rfl, hb, hg, _⟩
  · exact absurd (List.eq_nil_of_length_eq_zero h0) hne
  · refine ⟨g, cap, rfl, (Array.getElem?_eq_some_iff.1 hg).1, fun i hi => ?_⟩
    have h1 := h.cellAt (i * 3) (by omega)
    have h2 := h.cellAt (i * 3 + 1) (by omega)
    have h3 := h.cellAt (i * 3 + 2) (by omega)
    have h4 := cells3_at l i hi
    exact ⟨h1.trans h4.1, h2.trans h4.2.1, h3.trans h4.2.2⟩
theorem own_new {w : World} {e : TypeId} {l : List Pr} {n : Nat} (hn : l.length = n) (hm : n ≤ 1000) : (w.alloc (.cells (cells3 l).toArray e)).ownsRow w.heap.size e 3 (.slice (some ⟨w.heap.size, 0, none⟩) n n) n (cells3 l) := by
  subst hn
  refine ⟨cells3_len l, .inr ⟨w.heap.size, l.length, (cells3 l).toArray, rfl, Nat.le_refl _, heap_alloc_new w _, Nat.le_refl _, by unfold maxLen; omega, by simp [cells3_len], ?_⟩⟩
  rw [← cells3_len l]
  simp
/-- A map's element reads as itself. -/
def fnR (v : Value) : Option (DataW Value × List MemPlace) := some (.held v, [])
def rowV (p : Pr) : Value := .agg #[.int .i64 p.1, .int .i64 p.2.1, .int .i64 p.2.2]
/-- Rows by their keys, the last one standing. -/
def tabM (kf : Pr → Lit) (l : List Pr) : DataW Value := l.foldl (fun D p => D.put (kf p) (.held (rowV p))) (.map [])
def lkp (f : Pr → Bool) (l : List Pr) : Option Pr := l.foldl (fun o p => if f p then some p else o) none
theorem tabM_snoc (kf : Pr → Lit) (l : List Pr) (p : Pr) : tabM kf (l ++ [p]) = (tabM kf l).put (kf p) (.held (rowV p)) := by unfold tabM; rw [List.foldl_append]; rfl
theorem put_is {D : DataW Value} (h : IsMap D) (k : Lit) (d : DataW Value) : IsMap (D.put k d) := by
  obtain ⟨es, rfl⟩ := h
  exact ⟨_, rfl⟩
theorem tab_look0 {kf : Pr → Lit} {kl : Lit} {f : Pr → Bool} (hk : WideAt.IsKeyLit kl) (hf : ∀ p, f p = true ↔ kf p = kl) (z : DataW Value) : ∀ (l : List Pr) (D : DataW Value) (o : Option Pr), IsMap D → Maps.has D kl = o.isSome → D.atKey kl z = (match o with | some p => .held (rowV p) | none => z) →
    Maps.has (l.foldl (fun D p => D.put (kf p) (.held (rowV p))) D) kl = (l.foldl (fun o p => if f p then some p else o) o).isSome ∧ (l.foldl (fun D p => D.put (kf p) (.held (rowV p))) D).atKey kl z = (match l.foldl (fun o p => if f p then some p else o) o with | some p => .held (rowV p) | none => z)
  | [], D, o, _, h1, h2 => ⟨h1, h2⟩
  | p :: t, D, o, h0, h1, h2 => by
    simp only [List.foldl_cons]
    refine tab_look0 hk hf z t _ _ (put_is h0 _ _) ?_ ?_
    · by_cases h : f p = true
      · rw [if_pos h, (hf p).1 h]
        exact has_put_same h0 hk _
      · rw [if_neg h]
        exact (has_put_other (fun e => h ((hf p).2 e.symm)) _).trans h1
    · by_cases h : f p = true
      · rw [if_pos h, (hf p).1 h]
        exact atKey_put_same h0 hk _ _
      · rw [if_neg h]
        exact (atKey_put_other (fun e => h ((hf p).2 e.symm)) _ _).trans h2
theorem tab_look {kf : Pr → Lit} {kl : Lit} {f : Pr → Bool} (hk : WideAt.IsKeyLit kl) (hf : ∀ p, f p = true ↔ kf p = kl) (z : DataW Value) (l : List Pr) :
    Maps.has (tabM kf l) kl = (lkp f l).isSome ∧ (tabM kf l).atKey kl z = (match lkp f l with | some p => .held (rowV p) | none => z) := tab_look0 hk hf z l _ _ isMap_empty rfl rfl
theorem tab_look_on0 {kf : Pr → Lit} {kl : Lit} {f : Pr → Bool} (hk : WideAt.IsKeyLit kl) (z : DataW Value) : ∀ (l : List Pr) (hf : ∀ p ∈ l, (f p = true ↔ kf p = kl)) (D : DataW Value) (o : Option Pr), IsMap D → Maps.has D kl = o.isSome → D.atKey kl z = (match o with | some p => .held (rowV p) | none => z) →
    Maps.has (l.foldl (fun D p => D.put (kf p) (.held (rowV p))) D) kl = (l.foldl (fun o p => if f p then some p else o) o).isSome ∧ (l.foldl (fun D p => D.put (kf p) (.held (rowV p))) D).atKey kl z = (match l.foldl (fun o p => if f p then some p else o) o with | some p => .held (rowV p) | none => z)
  | [], _, D, o, _, h1, h2 => ⟨h1, h2⟩
  | p :: t, hf, D, o, h0, h1, h2 => by
    simp only [List.foldl_cons]
    have hfp := hf p (by simp)
    refine tab_look_on0 hk z t (fun q hq => hf q (by simp [hq])) _ _ (put_is h0 _ _) ?_ ?_
    · by_cases h : f p = true
      · rw [if_pos h, hfp.1 h]
        exact has_put_same h0 hk _
      · rw [if_neg h]
        exact (has_put_other (fun e => h (hfp.2 e.symm)) _).trans h1
    · by_cases h : f p = true
      · rw [if_pos h, hfp.1 h]
        exact atKey_put_same h0 hk _ _
      · rw [if_neg h]
        exact (atKey_put_other (fun e => h (hfp.2 e.symm)) _ _).trans h2
theorem tab_look_on {kf : Pr → Lit} {kl : Lit} {f : Pr → Bool} (hk : WideAt.IsKeyLit kl) (l : List Pr) (hf : ∀ p ∈ l, (f p = true ↔ kf p = kl)) (z : DataW Value) :
    Maps.has (tabM kf l) kl = (lkp f l).isSome ∧ (tabM kf l).atKey kl z = (match lkp f l with | some p => .held (rowV p) | none => z) := tab_look_on0 hk z l hf _ _ isMap_empty rfl rfl
theorem lawI64 : Keyed Try.prog 3 := int_keyed (q := .i64) Try.underlying3
theorem arr2 : WideMaps.ArrKey Try.prog 46 3 2 := ⟨Try.underlying46, by kernel_rfl, by kernel_rfl, by kernel_rfl⟩
theorem lawArr : Keyed Try.prog 46 := Keyed.of_law arr2.law
theorem map_below {H : Type} {P : Program} {k : TypeId} {R : Value → Option (DataW H × List MemPlace)} {w w' : World} {b n : Nat} {D : DataW H} (h : w.ownsMap P k R b n D) (hb : Below w.heap.size w w') : w'.ownsMap P k R b n D := by
  have hlt := h.lt
  obtain ⟨es, clock, h0, F, hs, hD⟩ := h
  exact ⟨es, clock, (hb.block b hlt).trans h0, F, hs, hD⟩
theorem drew_lt (w : World) (o : Obj) : w.heap.size < (w.alloc o).drew.heap.size := by show w.heap.size < (w.alloc o).heap.size; simp
theorem cells_of_new {W w2 : World} {H : Nat} {x y z : Value} {t : TypeId} (hb : Below W.heap.size W w2) (h : W.heap[H]? = some (.cells #[x, y, z] t)) : w2.cell? ⟨H, 0, none⟩ = some x ∧ w2.cell? ⟨H, 1, none⟩ = some y ∧ w2.cell? ⟨H, 2, none⟩ = some z := by
  have hl : H < W.heap.size := (Array.getElem?_eq_some_iff.1 h).1
  have h2 : Blk w2 H #[x, y, z] t := (hb.block H hl).trans h
  exact ⟨by rw [h2.cell]; rfl, by rw [h2.cell]; rfl, by rw [h2.cell]; rfl⟩
theorem cells_grown {w2 w3 : World} {H b : Nat} {x y z : Value} (h : w2.cell? ⟨H, 0, none⟩ = some x ∧ w2.cell? ⟨H, 1, none⟩ = some y ∧ w2.cell? ⟨H, 2, none⟩ = some z) (hg : w2.grownBy w3 (some b)) (hne : H ≠ b) : w3.cell? ⟨H, 0, none⟩ = some x ∧ w3.cell? ⟨H, 1, none⟩ = some y ∧ w3.cell? ⟨H, 2, none⟩ = some z :=
  ⟨hg.cell h.1 (by simpa using hne), hg.cell h.2.1 (by simpa using hne), hg.cell h.2.2 (by simpa using hne)⟩
def kI (p : Pr) : Lit := .int .i64 p.1
def kA (p : Pr) : Lit := .string (keyBytes [.int .i64 p.2.1, .int .i64 p.2.2])
set_option maxRecDepth 100000 in
set_option maxHeartbeats 4000000 in
theorem by_int (l : List Pr) (n : Nat) (hn : l.length = n) (hn7 : n ≤ 1000) (hkey : ∀ p ∈ l, keyOf Try.prog 3 (.int .i64 p.1) = some (kI p)) (hmk : ∀ w, (Instr.makeMap 42 (some (.int .i64 (n : Int)))).run Try.prog w = .ok (.map (some w.heap.size)) (w.alloc (.map #[] 0)))
    (u : Value) (w : World) (hu : Tri w u l) : Calls Try.prog 34 #[.func (.func 35) #[] #[], u] w fun e w' => ∃ G, e = .returned (.map (some G)) ∧ w'.ownsMap Try.prog 3 fnR G n (tabM kI l) ∧ Below w.heap.size w w' := by
  obtain ⟨b, cap, rfl, hb, hc⟩ := hu
  have HC := Lib.hid hc
  have HKY := Lib.hid hkey
  have HN := Lib.hid hn
  rw [hn]
  clear hc hkey hn
  have HM0 : Hid ((w.alloc (.map #[] 0)).ownsMap Try.prog 3 fnR w.heap.size 0 (tabM kI [])) := Lib.hid (World.ownsMap_made w Try.prog 3 fnR)
  have HB0 : Hid (Below w.heap.size w (w.alloc (.map #[] 0))) := Lib.hid ((Below.refl _ _).alloc (Nat.le_refl _) _)
  go_enter Try.func34, Try.ntmps34
  go_wp2_with fail
  clear hmk
  go_loopg [13] (n + 1) (fun gh q wr => ∃ (k : Nat), k + gh = n + 1 ∧ q = .int .i64 k ∧ k ≤ n ∧ Hid (wr.ownsMap Try.prog 3 fnR w.heap.size k (tabM kI (l.take k))) ∧ Hid (Below w.heap.size w wr))
  case atStart => exact ⟨0, by omega, rfl, by omega, HM0, HB0⟩
  case round =>
    obtain ⟨k, hkg, rfl, hkn, HM, HB⟩ := hrel
    by_cases hk : k < n
    · have hkl : k < l.length := by rw [HN.out]; exact hk
      obtain ⟨hc0, hc1, hc2⟩ := HC.out k hkl
      have hc0 := (HB.out.cell (p := ⟨b, k * 3, none⟩) hb).trans hc0
      have hc1 := (HB.out.cell (p := ⟨b, k * 3 + 1, none⟩) hb).trans hc1
      have hc2 := (HB.out.cell (p := ⟨b, k * 3 + 2, none⟩) hb).trans hc2
      have HT : Hid (l.take (k + 1) = l.take k ++ [l[k]]) := Lib.hid (List.take_succ_eq_append_getElem hkl)
      have HK1 := Lib.hid (HKY.out _ (List.getElem_mem hkl))
      obtain ⟨p, hp⟩ : ∃ p, l[k] = p := ⟨_, rfl⟩
      rw [hp] at hc0 hc1 hc2 HT HK1
      clear hp
      obtain ⟨pa, pb, pc⟩ := p
      simp only at hc0 hc1 hc2
      obtain ⟨H, hH⟩ : ∃ H, wr.heap.size = H := ⟨_, rfl⟩
      have HR : Hid (∀ W, Calls Try.prog 35 #[.agg #[.int .i64 pa, .int .i64 pb, .int .i64 pc]] W fun e w' => e = .returned (.int .i64 pa) ∧ Below W.heap.size W w') := Lib.hid fun W => whole_of_row (pa, pb, pc) W
      have hki : (k : Int) < (n : Int) := by omega
      have HX : Hid (w.heap.size < wr.heap.size) := Lib.hid HM.out.lt
      have HZ := Lib.hid hH
      clear hH
      have hw1 : (wr.alloc (.cells #[.int .i64 pa, .int .i64 pb, .int .i64 pc] 40)).heap.size = wr.heap.size + 1 := by simp
      have HA := Lib.hid (heap_alloc_new wr (.cells #[.int .i64 pa, .int .i64 pb, .int .i64 pc] 40))
      have HM1 := Lib.hid (HM.out.alloc (.cells #[.int .i64 pa, .int .i64 pb, .int .i64 pc] 40))
      have HB1 := Lib.hid (HB.out.alloc HB.out.size (.cells #[.int .i64 pa, .int .i64 pb, .int .i64 pc] 40))
      have hw1 := Lib.hid hw1
      go_wp2_with fail
      go_region_held3 (fun wx => wx.cell? ⟨wr.heap.size, 0, none⟩ = some (.int .i64 pa) ∧ wx.cell? ⟨wr.heap.size, 1, none⟩ = some (.int .i64 pb) ∧ wx.cell? ⟨wr.heap.size, 2, none⟩ = some (.int .i64 pc))
        (first
          | go_keep
          | exact HS2.out
          | exact HS3.out)
        (first
          | (go_at_call 35; refine (HR.out _).mono ?_; rintro _ w2 ⟨rfl, hb2⟩
             have HM2 : Hid (w2.ownsMap Try.prog 3 fnR w.heap.size k (tabM kI (l.take k))) := Lib.hid (map_below (World.ownsMap.drew HM1.out) hb2)
             have HB2 : Hid (Below w.heap.size w w2) := Lib.hid (HB1.out.drew.trans (hb2.mono HB1.out.drew.size))
             have HS2 : Hid (w2.cell? ⟨wr.heap.size, 0, none⟩ = some (.int .i64 pa) ∧ w2.cell? ⟨wr.heap.size, 1, none⟩ = some (.int .i64 pb) ∧ w2.cell? ⟨wr.heap.size, 2, none⟩ = some (.int .i64 pc)) := Lib.hid (cells_of_new hb2 HA.out)
             have HL2 : Hid (wr.heap.size < w2.heap.size) := Lib.hid (Nat.lt_of_lt_of_le (drew_lt wr _) hb2.size)
             obtain ⟨w3, hrun3, hown3, hgrow3⟩ := World.ownsMap.update HM2.out lawI64 Try.underlying42 (by unfold maxLen; omega) HK1.out (val := .agg #[.int .i64 pa, .int .i64 pb, .int .i64 pc]) (d := .held (rowV (pa, pb, pc))) (ps := []) rfl
             have HS3 : Hid (w3.cell? ⟨wr.heap.size, 0, none⟩ = some (.int .i64 pa) ∧ w3.cell? ⟨wr.heap.size, 1, none⟩ = some (.int .i64 pb) ∧ w3.cell? ⟨wr.heap.size, 2, none⟩ = some (.int .i64 pc)) := Lib.hid (cells_grown HS2.out hgrow3 (by have := HX.out; omega))
             have HM3 : Hid (w3.ownsMap Try.prog 3 fnR w.heap.size (k + 1) (tabM kI (l.take (k + 1)))) := Lib.hid (by rw [HT.out, tabM_snoc]; exact hown3)
             have HB3 : Hid (Below w.heap.size w w3) := Lib.hid (HB2.out.grown hgrow3 HB2.out.size (fun j e => by cases e; exact Nat.le_refl _))
             clear hb2 hown3 hgrow3))

      go_wp2_with fail
      go_roundg (gk - 1)
      case measure => omega
      case rel => exact ⟨k + 1, by omega, by simp, by omega, HM3, HB3⟩
    · have hkk : k = n := by omega
      subst hkk
      have HE : Hid (l.take k = l) := Lib.hid (List.take_of_length_le (by rw [HN.out]; omega))
      go_wp2_with fail
      go_ret
      exact ⟨_, rfl, by have := HM.out; rwa [HE.out] at this, HB.out⟩
set_option maxRecDepth 100000 in
set_option maxHeartbeats 4000000 in
theorem by_arr (l : List Pr) (n : Nat) (hn : l.length = n) (hn7 : n ≤ 1000) (hkey : ∀ p ∈ l, keyOf Try.prog 46 (.agg #[.int .i64 p.2.1, .int .i64 p.2.2]) = some (kA p)) (hmk : ∀ w, (Instr.makeMap 44 (some (.int .i64 (n : Int)))).run Try.prog w = .ok (.map (some w.heap.size)) (w.alloc (.map #[] 0)))
    (u : Value) (w : World) (hu : Tri w u l) : Calls Try.prog 36 #[.func (.func 37) #[] #[], u] w fun e w' => ∃ G, e = .returned (.map (some G)) ∧ w'.ownsMap Try.prog 46 fnR G n (tabM kA l) ∧ Below w.heap.size w w' := by
  obtain ⟨b, cap, rfl, hb, hc⟩ := hu
  have HC := Lib.hid hc
  have HKY := Lib.hid hkey
  have HN := Lib.hid hn
  rw [hn]
  clear hc hkey hn
  have HM0 : Hid ((w.alloc (.map #[] 0)).ownsMap Try.prog 46 fnR w.heap.size 0 (tabM kA [])) := Lib.hid (World.ownsMap_made w Try.prog 46 fnR)
  have HB0 : Hid (Below w.heap.size w (w.alloc (.map #[] 0))) := Lib.hid ((Below.refl _ _).alloc (Nat.le_refl _) _)
  go_enter Try.func36, Try.ntmps36
  go_wp2_with fail
  clear hmk
  go_loopg [13] (n + 1) (fun gh q wr => ∃ (k : Nat), k + gh = n + 1 ∧ q = .int .i64 k ∧ k ≤ n ∧ Hid (wr.ownsMap Try.prog 46 fnR w.heap.size k (tabM kA (l.take k))) ∧ Hid (Below w.heap.size w wr))
  case atStart => exact ⟨0, by omega, rfl, by omega, HM0, HB0⟩
  case round =>
    obtain ⟨k, hkg, rfl, hkn, HM, HB⟩ := hrel
    by_cases hk : k < n
    · have hkl : k < l.length := by rw [HN.out]; exact hk
      obtain ⟨hc0, hc1, hc2⟩ := HC.out k hkl
      have hc0 := (HB.out.cell (p := ⟨b, k * 3, none⟩) hb).trans hc0
      have hc1 := (HB.out.cell (p := ⟨b, k * 3 + 1, none⟩) hb).trans hc1
      have hc2 := (HB.out.cell (p := ⟨b, k * 3 + 2, none⟩) hb).trans hc2
      have HT : Hid (l.take (k + 1) = l.take k ++ [l[k]]) := Lib.hid (List.take_succ_eq_append_getElem hkl)
      have HK1 := Lib.hid (HKY.out _ (List.getElem_mem hkl))
      obtain ⟨p, hp⟩ : ∃ p, l[k] = p := ⟨_, rfl⟩
      rw [hp] at hc0 hc1 hc2 HT HK1
      clear hp
      obtain ⟨pa, pb, pc⟩ := p
      simp only at hc0 hc1 hc2
      obtain ⟨H, hH⟩ : ∃ H, wr.heap.size = H := ⟨_, rfl⟩
      have HR : Hid (∀ W, Calls Try.prog 37 #[.agg #[.int .i64 pa, .int .i64 pb, .int .i64 pc]] W fun e w' => e = .returned (.agg #[.int .i64 pb, .int .i64 pc]) ∧ Below W.heap.size W w') := Lib.hid fun W => parts_of_row (pa, pb, pc) W
      have hki : (k : Int) < (n : Int) := by omega
      have HX : Hid (w.heap.size < wr.heap.size) := Lib.hid HM.out.lt
      have HZ := Lib.hid hH
      clear hH
      have hw1 : (wr.alloc (.cells #[.int .i64 pa, .int .i64 pb, .int .i64 pc] 40)).heap.size = wr.heap.size + 1 := by simp
      have HA := Lib.hid (heap_alloc_new wr (.cells #[.int .i64 pa, .int .i64 pb, .int .i64 pc] 40))
      have HM1 := Lib.hid (HM.out.alloc (.cells #[.int .i64 pa, .int .i64 pb, .int .i64 pc] 40))
      have HB1 := Lib.hid (HB.out.alloc HB.out.size (.cells #[.int .i64 pa, .int .i64 pb, .int .i64 pc] 40))
      have hw1 := Lib.hid hw1
      go_wp2_with fail
      go_region_held3 (fun wx => wx.cell? ⟨wr.heap.size, 0, none⟩ = some (.int .i64 pa) ∧ wx.cell? ⟨wr.heap.size, 1, none⟩ = some (.int .i64 pb) ∧ wx.cell? ⟨wr.heap.size, 2, none⟩ = some (.int .i64 pc))
        (first
          | go_keep
          | exact HS2.out
          | exact HS3.out)
        (first
          | (go_at_call 37; refine (HR.out _).mono ?_; rintro _ w2 ⟨rfl, hb2⟩
             have HM2 : Hid (w2.ownsMap Try.prog 46 fnR w.heap.size k (tabM kA (l.take k))) := Lib.hid (map_below (World.ownsMap.drew HM1.out) hb2)
             have HB2 : Hid (Below w.heap.size w w2) := Lib.hid (HB1.out.drew.trans (hb2.mono HB1.out.drew.size))
             have HS2 : Hid (w2.cell? ⟨wr.heap.size, 0, none⟩ = some (.int .i64 pa) ∧ w2.cell? ⟨wr.heap.size, 1, none⟩ = some (.int .i64 pb) ∧ w2.cell? ⟨wr.heap.size, 2, none⟩ = some (.int .i64 pc)) := Lib.hid (cells_of_new hb2 HA.out)
             have HL2 : Hid (wr.heap.size < w2.heap.size) := Lib.hid (Nat.lt_of_lt_of_le (drew_lt wr _) hb2.size)
             obtain ⟨w3, hrun3, hown3, hgrow3⟩ := World.ownsMap.update HM2.out lawArr Try.underlying44 (by unfold maxLen; omega) HK1.out (val := .agg #[.int .i64 pa, .int .i64 pb, .int .i64 pc]) (d := .held (rowV (pa, pb, pc))) (ps := []) rfl
             have HS3 : Hid (w3.cell? ⟨wr.heap.size, 0, none⟩ = some (.int .i64 pa) ∧ w3.cell? ⟨wr.heap.size, 1, none⟩ = some (.int .i64 pb) ∧ w3.cell? ⟨wr.heap.size, 2, none⟩ = some (.int .i64 pc)) := Lib.hid (cells_grown HS2.out hgrow3 (by have := HX.out; omega))
             have HM3 : Hid (w3.ownsMap Try.prog 46 fnR w.heap.size (k + 1) (tabM kA (l.take (k + 1)))) := Lib.hid (by rw [HT.out, tabM_snoc]; exact hown3)
             have HB3 : Hid (Below w.heap.size w w3) := Lib.hid (HB2.out.grown hgrow3 HB2.out.size (fun j e => by cases e; exact Nat.le_refl _))
             clear hb2 hown3 hgrow3))

      go_wp2_with fail
      go_roundg (gk - 1)
      case measure => omega
      case rel => exact ⟨k + 1, by omega, by simp, by omega, HM3, HB3⟩
    · have hkk : k = n := by omega
      subst hkk
      have HE : Hid (l.take k = l) := Lib.hid (List.take_of_length_le (by rw [HN.out]; omega))
      go_wp2_with fail
      go_ret
      exact ⟨_, rfl, by have := HM.out; rwa [HE.out] at this, HB.out⟩
theorem infoR : (Try.prog.info? 40).map (fun i => (i.zero, i.size, i.bytes)) = some (some (.agg #[.int .i64 0, .int .i64 0, .int .i64 0]), 3, 24) := by kernel_rfl
/-- A literal of rows at the operation. -/
theorem wpList_buildSlice_to {P : Program} (w : World) {ops : Array Oper} {rest : List Oper} {o : Oper} {a : Act} {Q : Exit → Act → World → Prop}
    (hg : o.guard = none) (T : TypeId) (n : Nat) (parts : Array (Nat × Operand)) (hop : o.op = Op.buildSlice T n parts) (vals : Array (Nat × Value)) (v : Value) (O : Obj) (hrun : (Instr.buildSlice T n vals).run P w = .ok v (w.alloc O)) (hv : parts.map (fun x => (x.1, a.eval x.2)) = vals)
    (hK : wpList P ops Q rest (a.put o.dst v) (w.alloc O)) : wpList P ops Q (o :: rest) a w := by
  refine wpList_plain hg fun K' hK' => ?_
  have h := hrun
  rw [← hv] at h
  unfold Oper.wp
  simp only [execOp, hop, h, Sem.run_bind, Sem.run_pure, Result.andThen_ok]
  exact hK' _ _ hK
def partsW : Array (Nat × Value) := (wl.zipIdx.map fun x => (x.2, Value.agg #[.int .i64 x.1.1, .int .i64 x.1.2.1, .int .i64 x.1.2.2])).toArray
theorem build_wl (w : World) : (Instr.buildSlice 48 68 partsW).run Try.prog w = .ok (.slice (some ⟨w.heap.size, 0, none⟩) 68 68) (w.alloc (.cells (cells3 wl).toArray 40)) := by kernel_rfl
end Go.Proofs.Ytdifocahmephjaa.Tab
