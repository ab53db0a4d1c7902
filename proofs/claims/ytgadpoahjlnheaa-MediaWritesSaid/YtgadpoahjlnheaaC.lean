/- The reader's box; the contracts of keep, take and Lower. -/
import Derived.Test.YtgadpoahjlnheaaB
import Derived.Test.YtgadpoahjlnheaaLF
namespace Go.Proofs.Ytgadpoahjlnheaa.Med
open Go.RowKit
set_option linter.unusedVariables false
set_option linter.unusedSimpArgs false
open Lab (RetS ret_str str str_size str_list str_eta str_inj u8v st_ixb info5 info_parts)
theorem grown_set (w : World) (a : Addr) (v : Value) : w.grownBy (w.setCell a v) (some a.block) := by
  refine ⟨rfl, rfl, rfl, ?_, ?_⟩
  · simp [World.setCell]
  · intro k hk hne
    exact Below.heap_setCell _ _ _ _ (by intro e; exact hne (by rw [e]))
theorem blk_kept {w w' : World} {b : Nat} {xs : Array Value} {T : TypeId} {row : Option Nat} (h : Blk w b xs T) (hg : w.grownBy w' row) (hne : some b ≠ row) : Blk w' b xs T :=
  (hg.block b h.lt hne).trans h
theorem not_row {w : World} {b : Nat} {C : Array Value} {T e : TypeId} (hb : Blk w b C T) (hT : T ≠ e) {base size n : Nat} {v : Value} {xs : List Value} (h : w.ownsRow base e size v n xs) : some b ≠ v.ownBlock := by
  rcases h.2 with ⟨rfl, _⟩ | ⟨g, cap, cur, rfl, _, hg, _⟩
  · simp [Value.ownBlock]
  · intro e'
    have : b = g := by simpa [Value.ownBlock] using e'
    subst this
    unfold Blk at hb
    rw [hb] at hg
    cases hg
    exact hT rfl
theorem rows_apart {w : World} {base e e' size size' n n' : Nat} {v v' : Value} {xs xs' : List Value} (hT : e ≠ e') (h : w.ownsRow base e size v n xs) (h' : w.ownsRow base e' size' v' n' xs') : v.ownBlock = none ∨ v.ownBlock ≠ v'.ownBlock := by
  rcases h.2 with ⟨rfl, _⟩ | ⟨g, cap, cur, rfl, _, hg, _⟩
  · exact .inl rfl
  · right
    exact not_row (b := g) (C := cur) hg hT h'
theorem own_set {w : World} {B : Nat} {C : Array Value} {T : TypeId} {base e size n : Nat} {v : Value} {xs : List Value} (h : w.ownsRow base e size v n xs) (hb : Blk w B C T) (hT : T ≠ e) (o : Nat) (x : Value) : (w.setCell ⟨B, o, none⟩ x).ownsRow base e size v n xs :=
  h.kept (grown_set w ⟨B, o, none⟩ x) (.inr (fun e' => not_row hb hT h e'.symm))
theorem own_below {w w' : World} {m base e size n : Nat} {v : Value} {xs : List Value} (h : w.ownsRow base e size v n xs) (hb : Below w.heap.size w w') : w'.ownsRow base e size v n xs := by
  refine ⟨h.1, ?_⟩
  rcases h.2 with h1 | ⟨g, cap, cur, rfl, h1, hg, h2⟩
  · exact .inl h1
  · have hl : g < w.heap.size := (Array.getElem?_eq_some_iff.1 hg).1
    exact .inr ⟨g, cap, cur, rfl, h1, (hb.block g hl).trans hg, h2⟩
/-- The cells of parameters. -/
def cellsP (ps : List Par) : List Value := ps.flatMap fun p => [.string (str p.1), .string (str p.2)]
theorem cellsP_len (ps : List Par) : (cellsP ps).length = ps.length * 2 := by
  induction ps with
  | nil => rfl
  | cons p t ih => simp only [cellsP, List.flatMap_cons, List.length_append, List.length_cons, List.length_nil] at *; omega
theorem cellsP_app (a b : List Par) : cellsP (a ++ b) = cellsP a ++ cellsP b := by simp [cellsP]
theorem cellsP_at : ∀ (ps : List Par) (i : Nat) (h : i < ps.length), (cellsP ps)[2 * i]? = some (.string (str ps[i].1)) ∧ (cellsP ps)[2 * i + 1]? = some (.string (str ps[i].2))
  | [], i, h => by simp at h
  | p :: t, 0, h => ⟨rfl, rfl⟩
  | p :: t, i + 1, h => by
    have := cellsP_at t i (by simpa using h)
    have e : cellsP (p :: t) = .string (str p.1) :: .string (str p.2) :: cellsP t := rfl
    rw [e, show 2 * (i + 1) = 2 * i + 1 + 1 by omega, show 2 * i + 1 + 1 + 1 = (2 * i + 1) + 1 + 1 by omega]
    simpa using this
/-- All below n but for block B is as it was. -/
structure Fr (n B : Nat) (w w' : World) : Prop where
  os : w'.os = w.os
  tape : w'.tape = w.tape
  output : w'.output = w.output
  size : w.heap.size ≤ w'.heap.size
  block : ∀ k, k < n → k ≠ B → w'.heap[k]? = w.heap[k]?
namespace Fr
variable {n B : Nat} {a b c : World}
theorem refl (n B : Nat) (w : World) : Fr n B w w := ⟨rfl, rfl, rfl, Nat.le_refl _, fun _ _ _ => rfl⟩
theorem trans (h : Fr n B a b) (k : Fr n B b c) : Fr n B a c := ⟨k.os.trans h.os, k.tape.trans h.tape, k.output.trans h.output, Nat.le_trans h.size k.size, fun i hi hb => (k.block i hi hb).trans (h.block i hi hb)⟩
theorem of (h : Below n a b) : Fr n B a b := ⟨h.os, h.tape, h.output, h.size, fun i hi _ => h.block i hi⟩
theorem of' (h : Below a.heap.size a b) (hn : n ≤ a.heap.size) : Fr n B a b := of (h.mono hn)
theorem setB (h : Fr n B a b) (o : Nat) (v : Value) : Fr n B a (b.setCell ⟨B, o, none⟩ v) :=
  ⟨h.os, h.tape, h.output, by simpa [World.setCell] using h.size, fun i hi hb => (Below.heap_setCell _ _ _ _ hb).trans (h.block i hi hb)⟩
theorem below {m : Nat} (h : Fr n B a b) (hm : m ≤ n) (hb : m ≤ B) : Below m a b := ⟨h.os, h.tape, h.output, h.size, fun i hi => h.block i (by omega) (by omega)⟩
end Fr
/-- The reader's box holds what was read. -/
structure Rd (w : World) (n₀ B : Nat) (s : St) (u v : Value) : Prop where
  blk : Blk w B #[.string (str s.ty), u, v] 42
  pr : w.ownsRow n₀ 48 2 u s.ps.length (cellsP s.ps)
  wr : w.ownsRow n₀ 5 1 v s.wd.length (s.wd.map u8v)
  sz : n₀ ≤ w.heap.size
def RdS (w : World) (n₀ B : Nat) (s : St) : Prop := ∃ u v, Rd w n₀ B s u v
namespace Rd
variable {w w' : World} {n₀ B : Nat} {s : St} {u v : Value}
theorem c0 (h : Rd w n₀ B s u v) : w.cell? ⟨B, 0, none⟩ = some (.string (str s.ty)) := by rw [h.blk.cell]; rfl
theorem c1 (h : Rd w n₀ B s u v) : w.cell? ⟨B, 1, none⟩ = some u := by rw [h.blk.cell]; rfl
theorem c2 (h : Rd w n₀ B s u v) : w.cell? ⟨B, 2, none⟩ = some v := by rw [h.blk.cell]; rfl
theorem fz (h : Rd w n₀ B s u v) (o : Nat) : w.frozen? ⟨B, o, none⟩ = false := h.blk.froz o
theorem below (h : Rd w n₀ B s u v) (hb : Below w.heap.size w w') : Rd w' n₀ B s u v := ⟨h.blk.below hb, own_below (m := 0) h.pr hb, own_below (m := 0) h.wr hb, Nat.le_trans h.sz hb.size⟩
/-- The word has grown. -/
theorem appW {w1 : World} {tmp : Obj} {v1 : Value} {c : UInt8} (h : Rd w n₀ B s u v) (hown : w1.ownsRow n₀ 5 1 v1 (s.wd.length + 1) (s.wd.map u8v ++ [.int .u8 (c.toNat : Int)])) (hg : (w.alloc tmp).grownBy w1 v.ownBlock) :
    (w1.cell? ⟨B, 2, none⟩ = some v ∧ w1.frozen? ⟨B, 2, none⟩ = false) ∧ Rd (w1.setCell ⟨B, 2, none⟩ v1) n₀ B ⟨s.ty, s.ps, s.wd ++ [c]⟩ u v1 ∧ Fr n₀ B w (w1.setCell ⟨B, 2, none⟩ v1) := by
  have hsz := h.sz
  have b1 : Blk w1 B #[.string (str s.ty), u, v] 42 := blk_kept (h.blk.alloc tmp) hg (not_row (h.blk.alloc tmp) (by decide) (h.wr.alloc tmp))
  have p1 : w1.ownsRow n₀ 48 2 u s.ps.length (cellsP s.ps) := (h.pr.alloc tmp).kept hg (rows_apart (by decide) (h.pr.alloc tmp) (h.wr.alloc tmp))
  have g1 : w.heap.size + 1 ≤ w1.heap.size := by have := hg.size; simpa using this
  refine ⟨⟨by rw [b1.cell]; rfl, b1.froz 2⟩, ⟨b1.set (by simp), own_set p1 b1 (by decide) _ _, ?_, by simp [World.setCell]; omega⟩, ?_⟩
  · have := own_set hown b1 (by decide) 2 v1
    simpa [u8v] using this
  · exact (Fr.of (((Below.refl n₀ w).alloc hsz tmp).grown hg (by simp; omega) (fun k e => (World.ownsRow.lt h.wr k e).1))).setB _ _
/-- The word is taken. -/
theorem tookW {v1 : Value} (h : Rd w n₀ B s u v) (hv : (w.setCell ⟨B, 2, none⟩ v1).ownsRow n₀ 5 1 v1 0 []) : Rd (w.setCell ⟨B, 2, none⟩ v1) n₀ B ⟨s.ty, s.ps, []⟩ u v1 ∧ Fr n₀ B w (w.setCell ⟨B, 2, none⟩ v1) :=
  ⟨⟨h.blk.set (by simp), own_set h.pr h.blk (by decide) _ _, hv, by simpa [World.setCell] using h.sz⟩, (Fr.refl _ _ _).setB _ _⟩
/-- The type is laid. -/
theorem setT (h : Rd w n₀ B s u v) (t : List UInt8) : Rd (w.setCell ⟨B, 0, none⟩ (.string (str t))) n₀ B ⟨t, s.ps, s.wd⟩ u v ∧ Fr n₀ B w (w.setCell ⟨B, 0, none⟩ (.string (str t))) :=
  ⟨⟨h.blk.set (by simp), own_set h.pr h.blk (by decide) _ _, own_set h.wr h.blk (by decide) _ _, by simpa [World.setCell] using h.sz⟩, (Fr.refl _ _ _).setB _ _⟩
end Rd
theorem mlower_any (s : ByteArray) (w : World) (hs : s.size ≤ maxLen) : Calls Try.prog 15 #[.string s] w fun e w' => RetS (lwr s.data.toList) w e w' := by
  have HL := Lab.lower_any
  have e : Lab.lwr s.data.toList = lwr s.data.toList := rfl
  go_enter Try.func15, Try.ntmps15
  go_wp2_with (go_at_call 27; refine (Lab.lower_any _ _ hs).mono ?_; rintro _ w' ⟨rfl, hb⟩)
  go_ret
  exact ⟨rfl, hb⟩
set_option maxHeartbeats 1000000 in
theorem keep_any (k pl : Nat) (hk : k ∈ sets) (c : Option UInt8) (s : St) (n₀ B : Nat) (w : World) (h : RdS w n₀ B s) (hl : s.wd.length ≤ 1000000) :
    Calls Try.prog 51 #[.pointer (some ⟨B, 0, none⟩), .int .i64 (ck c), .int .i64 (k : Int), .int .i64 (pl : Int)] w fun e w' => e = .returned (.int .i64 ((kp k pl c s).1 : Int)) ∧ RdS w' n₀ B (kp k pl c s).2 ∧ Fr n₀ B w w' := by
  obtain ⟨u, v, hr⟩ := h
  have hI := isIn_any k hk c
  by_cases hin : inS k c = true
  · cases c with
    | none =>
      exfalso
      simp only [sets, List.mem_cons, List.not_mem_nil, or_false] at hk
      rcases hk with rfl | rfl | rfl | rfl | rfl | rfl | rfl | rfl <;> exact absurd hin (by decide)
    | some c =>
      rw [kp_yes hin]
      rw [hin] at hI
      have hwr := wrap_u8 (c.toNat : Int) (by omega) (by have := c.toNat_lt; omega)
      have c2 := hr.c2
      have f2 := hr.fz 2
      have hsz := hr.sz
      have HR := Lib.hid hr
      have HI := Lib.hid hI
      clear hI hin hk
      obtain ⟨i0, hi, hz0, hz1, hz2⟩ := info_parts info5
      obtain ⟨x, hx⟩ : ∃ x : Int, (c.toNat : Int) = x := ⟨_, rfl⟩
      have hck : ck (some c) = x := hx
      rw [hck] at HI ⊢
      rw [hx] at hwr
      obtain ⟨n, hn⟩ : ∃ n, s.wd.length = n := ⟨_, rfl⟩
      have HN := Lib.hid hn
      rw [hn] at hl
      clear hn
      have HO : Hid (w.ownsRow n₀ 5 1 v n (s.wd.map u8v)) := Lib.hid (by have := HR.out.wr; rwa [HN.out] at this)
      go_enter Try.func51, Try.ntmps51
      go_wp2_with (first
        | (go_at_call 50; refine (HI.out _).mono ?_; rintro e w9 ⟨rfl, hw9⟩; subst w9)
        | (at_builtin; refine wpList_append_lies _ rfl _ _ _ rfl n₀ 5 i0 _ 1 1 Try.underlying40 hi hz0 hz1 hz2 rfl (by omega) v n (s.wd.map u8v) rfl (World.ownsRow.alloc HO.out _) ⟨w.heap.size, 0, none⟩ 1 1 [_] rfl rfl (cell_one_new _ _ _) (by simp [Value.oneCell']) (by omega) (by unfold maxLen; omega) (by omega) (by simp; omega) (w.heap.size + 1) (by simp) ?_; intro g1 cap1 w1 hown1 hgrow1 hat1 hlt1; have H := Lib.hid (HR.out.appW (c := c) (by rw [hx, HN.out]; exact hown1) hgrow1); have c21 := H.out.1.1; have f21 := H.out.1.2; clear hown1 hgrow1 hat1 hlt1))
      go_ret
      exact ⟨rfl, ⟨_, _, H.out.2.1⟩, H.out.2.2⟩
  · have hinf : inS k c = false := by simpa using hin
    rw [kp_no hinf]
    rw [hinf] at hI
    have HR := Lib.hid hr
    have HI := Lib.hid hI
    clear hI hin hk hinf
    obtain ⟨x, hx⟩ : ∃ x : Int, ck c = x := ⟨_, rfl⟩
    rw [hx] at HI ⊢
    go_enter Try.func51, Try.ntmps51
    go_wp2_with (go_at_call 50; refine (HI.out _).mono ?_; rintro e w9 ⟨rfl, hw9⟩; subst w9)
    go_ret
    exact ⟨rfl, ⟨_, _, HR.out⟩, Fr.refl _ _ _⟩
theorem own_zero {w : World} {base e size n cap : Nat} {p : Option Addr} {xs : List Value} (h : w.ownsRow base e size (.slice p n cap) n xs) : w.ownsRow base e size (.slice p 0 cap) 0 [] := by
  refine ⟨by simp, ?_⟩
  rcases h.2 with ⟨h1, h0⟩ | ⟨g, cap', cur, h1, h2, h3, h4, h5, h6, h7⟩
  · cases h1; exact .inl ⟨rfl, rfl⟩
  · cases h1; exact .inr ⟨g, cap, cur, rfl, h2, h3, Nat.zero_le _, h5, h6, by simp⟩
set_option maxHeartbeats 1000000 in
theorem take_any (s : St) (n₀ B : Nat) (u v : Value) (w : World) (hr : Rd w n₀ B s u v) :
    Calls Try.prog 52 #[.pointer (some ⟨B, 0, none⟩)] w fun e w' => e = .returned (.string (str s.wd)) ∧ (∃ v', Rd w' n₀ B ⟨s.ty, s.ps, []⟩ u v') ∧ Fr n₀ B w w' ∧ (w'.heap.size = w.heap.size) ∧ ∀ j, j ≠ B → w'.heap[j]? = w.heap[j]? := by
  have hconv := Lab.conv_own (xs := s.wd) hr.wr
  have c2 := hr.c2
  have f2 := hr.fz 2
  have HR := Lib.hid hr
  rcases hr.wr.2 with ⟨rfl, h0⟩ | ⟨g, cap, cur, rfl, _, _, hcap, _⟩
  · have H := Lib.hid (HR.out.tookW (v1 := .slice none 0 0) (World.ownsRow_nil _ _ _ _))
    clear h0 hr
    go_enter Try.func52, Try.ntmps52
    go_wp2_with fail
    go_ret
    exact ⟨rfl, ⟨_, H.out.1⟩, H.out.2, by simp [World.setCell], fun j hj => Below.heap_setCell _ _ _ _ hj⟩
  · have H := Lib.hid (HR.out.tookW (v1 := .slice (some ⟨g, 0, none⟩) 0 cap) (own_set (own_zero HR.out.wr) HR.out.blk (by decide) _ _))
    clear hr
    go_enter Try.func52, Try.ntmps52
    go_wp2_with fail
    go_ret
    exact ⟨rfl, ⟨_, H.out.1⟩, H.out.2, by simp [World.setCell], fun j hj => Below.heap_setCell _ _ _ _ hj⟩
end Go.Proofs.Ytgadpoahjlnheaa.Med
