import Derived.Test.YtjgbnagacbiolaaDA
import Derived.Test.YtjgbnagacbiolaaRL
namespace Go.Proofs.Ytjgbnagacbiolaa
open Go.RowKit
set_option linter.unusedVariables false
set_option linter.unusedSimpArgs false
open Go.ChangeShapes Go.WideShapes Go.ChangeAt
/-- The slice value reads as these operations. -/
def SlOf (W : World) (v : Value) (ws : List Wr) : Prop :=
  (ws = [] ∧ ∃ (a : Option Addr) (cap : Nat), v = .slice a 0 cap) ∨
  ∃ ab ao cap, v = .slice (some ⟨ab, ao, none⟩) ws.length cap ∧ WrAt W ab ao ws ∧ ab < W.heap.size ∧ ws.length ≤ cap ∧ cap ≤ maxLen
theorem SlOf.below {W W' : World} {v : Value} {ws : List Wr} (h : SlOf W v ws) (hb : Below W.heap.size W W') : SlOf W' v ws := by
  rcases h with h | ⟨ab, ao, cap, e, hw, hab, h1, h2⟩
  · exact .inl h
  · exact .inr ⟨ab, ao, cap, e, hw.below hab hb, Nat.lt_of_lt_of_le hab hb.size, h1, h2⟩
theorem list_of {P : Nat → Wr → Prop} (n : Nat) (h : ∀ i, i < n → ∃ x, P i x) : ∃ ws : List Wr, ws.length = n ∧ ∀ (i : Nat) (hi : i < ws.length), P i ws[i] := by
  induction n with
  | zero => exact ⟨[], rfl, fun i hi => absurd hi (by simp)⟩
  | succ n ih =>
    obtain ⟨ws, hl, hp⟩ := ih (fun i hi => h i (by omega))
    obtain ⟨x, hx⟩ := h n (by omega)
    refine ⟨ws ++ [x], by simp [hl], fun i hi => ?_⟩
    by_cases hin : i < ws.length
    · rw [List.getElem_append_left hin]; exact hp i hin
    · have : i = ws.length := by simp at hi; omega
      subst this
      rw [List.getElem_append_right (Nat.le_refl _)]
      simp only [Nat.sub_self, List.getElem_cons_zero]
      rw [hl]; exact hx
section
variable {H : Type} {enc : TypeId × Value → H} {w : World}
theorem open_wr {fuel : Nat} {cs : List Value} {x : DataW H × List MemPlace} {base : Nat} {spare : Nat → Bool} {held : Bool} (h : DataW.trod enc Try.prog w base spare held fuel 29 cs = some x) :
    ∃ (op zn : Int) (b : ByteArray) (n : Int), cs = [.int .i8 op, .int .i64 zn, .string b, .int .i64 n] ∧ b.size ≤ maxLen := by
  obtain ⟨xs, n, _, _, hcl, hlen, hg⟩ := DataW.trod_struct Try.underlying29 h
  match cs, hcl.trans cells29, xs, hlen with
  | [c0, c1, c2, c3], _, [y0, y1, y2, y3], _ =>
    have h0 := hg 0 _ rfl
    have h1 := hg 1 _ rfl
    have h2 := hg 2 _ rfl
    have h3 := hg 3 _ rfl
    simp [cells27, cells3, cells9] at h0 h1 h2 h3
    obtain ⟨op, e0, _, _⟩ := DataW.trod_int Try.underlying27 h0
    obtain ⟨zn, e1, _, _⟩ := DataW.trod_int Try.underlying3 h1
    obtain ⟨bb, e2, _, hb⟩ := DataW.trod_string Try.underlying9 h2
    obtain ⟨n, e3, _, _⟩ := DataW.trod_int Try.underlying3 h3
    simp at e0 e1 e2 e3
    subst e0 e1 e2 e3
    exact ⟨op, zn, bb, n, rfl, hb⟩
theorem open_writes {r : Reach} {b : Nat} {v : Value} {d : DataW H} {p : List MemPlace} (hv : Value.okWide Try.prog w r b 32 v) (h : DataW.Trod enc Try.prog w 0 (fun _ => true) true 32 v d p) :
    ∃ ws : List Wr, SlOf w v ws ∧ ∀ x ∈ ws, x.b.size ≤ maxLen := by
  obtain ⟨a0, l0, cap0, rfl⟩ := okWide_slice Try.underlying32 hv
  obtain ⟨fuel, hf⟩ := h
  rcases Go.Deep.open_slice Try.underlying32 hf with ⟨h0, _⟩ | ⟨a, len, cap, m, n, D, Pl, hcs, hb, hl, hm, hmm, hx, hi⟩
  · simp [Value.cells] at h0
    obtain ⟨rfl, rfl, rfl⟩ := h0
    exact ⟨[], .inl ⟨rfl, none, 0, rfl⟩, by simp⟩
  · simp [Value.cells] at hcs
    obtain ⟨rfl, rfl, rfl⟩ := hcs
    by_cases hz : l0 = 0
    · subst hz
      exact ⟨[], .inl ⟨rfl, some a, cap0, rfl⟩, by simp⟩
    · have hlm : l0 ≤ m := by rw [hmm]; split <;> omega
      have cellq : ∀ i, i < l0 → ∃ x : Wr, x.b.size ≤ maxLen ∧ w.cell? (a.add (i * 4)) = some (.int .i8 x.op) ∧ w.cell? ((a.add (i * 4)).add 1) = some (.int .i64 x.zn) ∧ w.cell? ((a.add (i * 4)).add 2) = some (.string x.b) ∧ w.cell? ((a.add (i * 4)).add 3) = some (.int .i64 x.n) := by
        intro i hil
        obtain ⟨cs', hc, ht⟩ := hi i (by omega)
        rw [cells29] at hc
        obtain ⟨op, zn, bb, n, rfl, hbs⟩ := open_wr ht
        obtain ⟨_, _, hcell⟩ := World.cells?_some hc
        refine ⟨⟨op, zn, bb, n⟩, hbs, ?_, ?_, ?_, ?_⟩
        · have := hcell 0 (by omega)
          simpa [Addr.add] using this
        · simpa using hcell 1 (by omega)
        · simpa using hcell 2 (by omega)
        · simpa using hcell 3 (by omega)
      obtain ⟨x0, _, hc0, _⟩ := cellq 0 (by omega)
      have hs0 := World.cell?_spot hc0
      have hbl := World.block_lt_of_cell? _ _ hc0
      obtain ⟨ab, ao, sp⟩ := a
      have hsp : sp = none := by simpa [Addr.add] using hs0
      subst hsp
      have hab : ab < w.heap.size := by simpa [Addr.add] using hbl
      obtain ⟨ws, hwl, hws⟩ := list_of l0 cellq
      refine ⟨ws, .inr ⟨ab, ao, cap0, by rw [hwl], ?_, hab, by omega, hm⟩, ?_⟩
      · intro i hi
        obtain ⟨_, q0, q1, q2, q3⟩ := hws i hi
        rw [add_plain] at q0 q1 q2 q3
        rw [add_plain] at q1 q2 q3
        exact ⟨q0, q1, q2, q3⟩
      · intro x hx
        obtain ⟨i, hi, rfl⟩ := List.getElem_of_mem hx
        exact (hws i hi).1
end
set_option maxHeartbeats 400000 in
theorem all_zero (b0 b1 : ByteArray) (s0 s1 c l : Int) (d : Bool) (a : Option Addr) (cap : Nat) (w : World) :
    Calls Try.prog 23 #[.agg #[.string b0, .int .i64 s0, .string b1, .int .i64 s1, .int .i64 c, .int .i64 l, .bool d], .slice a 0 cap] w (RetA (⟨⟨b0, s0⟩, ⟨b1, s1⟩, c, l, d⟩, 0, 0) w) := by
  go_enter Try.func23, Try.ntmps23
  go_wp2_with fail
  refine wp_loop_rounds 1 ?_
  rw [rounds_succ]
  go_wp2_with fail
  refine bodyPost_ret (v := .tuple #[Dk.v ⟨⟨b0, s0⟩, ⟨b1, s1⟩, c, l, d⟩, .int .i64 (0 : Nat), .int .i64 0]) (by simp [results, Try.results23, go_sem]; done) rfl (retA_of rfl ?_)
  repeat' (first | (with_reducible exact Below.refl _ _) | (with_reducible assumption) | (with_reducible refine below_call ?_ (by with_reducible assumption)) | (with_reducible refine below_draws ?_ _) | (with_reducible refine Below.drew ?_) | (with_reducible refine Below.alloc ?_ ?_ _) | (with_reducible refine Below.setCell ?_ ?_ _) | omega | (simp; done) | (simp; omega))
set_option maxHeartbeats 400000 in
theorem rall_zero (b0 b1 : ByteArray) (s0 s1 c l : Int) (d : Bool) (a : Option Addr) (cap : Nat) (w : World) :
    Calls Try.prog 24 #[.agg #[.string b0, .int .i64 s0, .string b1, .int .i64 s1, .int .i64 c, .int .i64 l, .bool d], .slice a 0 cap] w (RetA (⟨⟨b0, s0⟩, ⟨b1, s1⟩, c, l, d⟩, 0, 0) w) := by
  go_enter Try.func24, Try.ntmps24
  go_wp2_with fail
  refine wp_loop_rounds 1 ?_
  rw [rounds_succ]
  go_wp2_with fail
  refine bodyPost_ret (v := .tuple #[Dk.v ⟨⟨b0, s0⟩, ⟨b1, s1⟩, c, l, d⟩, .int .i64 (0 : Nat), .int .i64 0]) (by simp [results, Try.results24, go_sem]; done) rfl (retA_of rfl ?_)
  repeat' (first | (with_reducible exact Below.refl _ _) | (with_reducible assumption) | (with_reducible refine below_call ?_ (by with_reducible assumption)) | (with_reducible refine below_draws ?_ _) | (with_reducible refine Below.drew ?_) | (with_reducible refine Below.alloc ?_ ?_ _) | (with_reducible refine Below.setCell ?_ ?_ _) | omega | (simp; done) | (simp; omega))
theorem greatw_zero (a : Option Addr) (cap : Nat) (w : World) : Calls Try.prog 9 #[.slice a 0 cap] w (RetP (GreatW []) w) := by
  go_enter Try.func9, Try.ntmps9
  go_wp2_with fail
  refine wp_loop_rounds 1 ?_
  rw [rounds_succ]
  go_wp2_with fail
  go_ret
  refine ⟨_, rfl, ?_, Below.refl _ _⟩
  simp [GreatW]
theorem all_sl (b0 b1 : ByteArray) (s0 s1 c l : Int) (d : Bool) (v : Value) (ws : List Wr) (w : World) (hfit : Dk.fit ⟨⟨b0, s0⟩, ⟨b1, s1⟩, c, l, d⟩) (hv : SlOf w v ws) (hg : ¬ GreatW ws) :
    Calls Try.prog 23 #[.agg #[.string b0, .int .i64 s0, .string b1, .int .i64 s1, .int .i64 c, .int .i64 l, .bool d], v] w (RetA (allF ⟨⟨b0, s0⟩, ⟨b1, s1⟩, c, l, d⟩ ws 0) w) := by
  rcases hv with ⟨rfl, a, cap, rfl⟩ | ⟨ab, ao, cap, rfl, hw, hab, h1, h2⟩
  · exact all_zero b0 b1 s0 s1 c l d a cap w
  · exact all_any b0 b1 s0 s1 c l d ab ao cap ws w hfit hw hab (by unfold GreatW at hg; omega) h1 (fun x hx => by
      by_cases hb : 4096 < x.b.size
      · exact absurd (Or.inr ⟨x, hx, hb⟩) hg
      · omega)
theorem rall_sl (b0 b1 : ByteArray) (s0 s1 c l : Int) (d : Bool) (v : Value) (ws : List Wr) (w : World) (hfit : Dk.fit ⟨⟨b0, s0⟩, ⟨b1, s1⟩, c, l, d⟩) (hv : SlOf w v ws) (hg : ¬ GreatW ws) :
    Calls Try.prog 24 #[.agg #[.string b0, .int .i64 s0, .string b1, .int .i64 s1, .int .i64 c, .int .i64 l, .bool d], v] w (RetA (allF ⟨⟨b0, s0⟩, ⟨b1, s1⟩, c, l, d⟩ ws 0) w) := by
  rcases hv with ⟨rfl, a, cap, rfl⟩ | ⟨ab, ao, cap, rfl, hw, hab, h1, h2⟩
  · exact rall_zero b0 b1 s0 s1 c l d a cap w
  · exact rall_any b0 b1 s0 s1 c l d ab ao cap ws w hfit hw hab (by unfold GreatW at hg; omega) h1 (fun x hx => by
      by_cases hb : 4096 < x.b.size
      · exact absurd (Or.inr ⟨x, hx, hb⟩) hg
      · omega)
theorem greatw_sl (v : Value) (ws : List Wr) (w : World) (hv : SlOf w v ws) (hs : ∀ x ∈ ws, x.b.size ≤ maxLen) : Calls Try.prog 9 #[v] w (RetP (GreatW ws) w) := by
  rcases hv with ⟨rfl, a, cap, rfl⟩ | ⟨ab, ao, cap, rfl, hw, hab, h1, h2⟩
  · exact greatw_zero a cap w
  · exact greatw_slice ab ao cap ws w hw h1 h2 hs
theorem greatw_yes (v : Value) (ws : List Wr) (w : World) (hv : SlOf w v ws) (hs : ∀ x ∈ ws, x.b.size ≤ maxLen) (hg : GreatW ws) : Calls Try.prog 9 #[v] w (RetB true w) :=
  (greatw_sl v ws w hv hs).mono fun e w' ⟨p, he, hp, hb⟩ => ⟨by rw [he, hp.2 hg], hb⟩
theorem greatw_no (v : Value) (ws : List Wr) (w : World) (hv : SlOf w v ws) (hs : ∀ x ∈ ws, x.b.size ≤ maxLen) (hg : ¬ GreatW ws) : Calls Try.prog 9 #[v] w (RetB false w) :=
  (greatw_sl v ws w hv hs).mono fun e w' ⟨p, he, hp, hb⟩ => ⟨by rw [he, Bool.eq_false_iff.2 (fun hh => hg (hp.1 hh))], hb⟩
end Go.Proofs.Ytjgbnagacbiolaa
