/- Proved: for every row of operations and every number the law DiskLeft of layer 1 returns true, and each argument reads behind the call as it read before. No condition. -/
import Derived.Test.YtjgbnagacbiolaaLF
namespace Go.Proofs.Ytjgbnagacbiolaa
open Go.RowKit
set_option linter.unusedVariables false
set_option linter.unusedSimpArgs false
theorem allF_l : ∀ (ws : List Wr) (x : Dk) (k : Nat), (allF x ws k).1.l ≤ max x.l 0
  | [], x, k => by unfold allF; simp only []; omega
  | w :: ws, x, k => by
    unfold allF
    obtain ⟨⟨o, e⟩, hr⟩ : ∃ r, doF x w.op w.zn w.b w.n = r := ⟨_, rfl⟩
    simp only [hr]
    split
    · simp only []; omega
    · split
      · simp only []; omega
      · rename_i h0
        have he : e = 0 := by omega
        subst he
        have := (doF_ok hr).2.1
        have ih := allF_l ws o (k + 1)
        omega
open Go.ChangeShapes Go.WideShapes Go.ChangeAt
theorem left_walk (v : Value) (ws : List Wr) (n : Int) (W : World) (hv : SlOf W v ws) (hs : ∀ x ∈ ws, x.b.size ≤ maxLen) (hn1 : -9223372036854775808 ≤ n) (hn2 : n ≤ 9223372036854775807) : Calls Try.prog 7 #[v, .int .i64 n] W (RetB true W) := by
  by_cases hg2 : GreatW ws
  · exact lf_g v ws n W hv hs hn1 hn2 hg2
  obtain ⟨t1, t2⟩ := tm1 n
  obtain ⟨m, hm⟩ : ∃ m : Nat, (n.tmod 50 + 50) % 50 = (m : Int) := ⟨((n.tmod 50 + 50) % 50).toNat, by omega⟩
  have hm50 : m < 50 := by omega
  obtain ⟨⟨⟨⟨A0, As⟩, ⟨A1, At⟩, Ac, Al, Ad⟩, k, f⟩, hr1⟩ : ∃ r, allF ⟨⟨⟨#[]⟩, 0⟩, ⟨⟨#[]⟩, 0⟩, 131072, -1, false⟩ ws 0 = r := ⟨_, rfl⟩
  obtain ⟨⟨⟨⟨X0, Xs⟩, ⟨X1, Xt⟩, Xc, Xl, Xd⟩, j, h⟩, hr2⟩ : ∃ r, allF ⟨⟨⟨#[]⟩, 0⟩, ⟨⟨#[]⟩, 0⟩, 131072, (m : Int), false⟩ ws 0 = r := ⟨_, rfl⟩
  have hL := left_law ws ⟨⟨⟨#[]⟩, 0⟩, ⟨⟨#[]⟩, 0⟩, 131072, -1, false⟩ 0 m fz2 rfl rfl
  rw [hr1, show allF { (⟨⟨⟨#[]⟩, 0⟩, ⟨⟨#[]⟩, 0⟩, 131072, -1, false⟩ : Dk) with l := (m : Int) } ws 0 = _ from hr2] at hL
  unfold LeftP at hL
  simp only [Nat.zero_add] at hL
  by_cases hc : k < m ∨ (m = k ∧ f ≠ 31)
  · rw [if_pos hc] at hL
    obtain ⟨rfl, rfl, h0, h1⟩ := hL
    simp only [Zn.mk.injEq] at h0 h1
    obtain ⟨rfl, rfl⟩ := h0
    obtain ⟨rfl, rfl⟩ := h1
    rcases hc with hc | ⟨hc, hf⟩
    · exact lf_a v ws n W hv hs hn1 hn2 hg2 m hm50 hm _ _ _ _ _ _ _ _ _ hr1 _ _ _ hr2 hc
    · exact lf_b v ws n W hv hs hn1 hn2 hg2 m hm50 hm _ _ _ _ _ _ _ _ _ hr1 _ _ _ hr2 hc hf
  · rw [if_neg hc] at hL
    obtain ⟨rfl, hj, hXd, hok⟩ := hL
    have hj := hj.symm
    subst hj
    obtain rfl : Xd = true := hXd
    have hXl : Xl ≤ 9223372036854775807 := by
      have := allF_l ws ⟨⟨⟨#[]⟩, 0⟩, ⟨⟨#[]⟩, 0⟩, 131072, (m : Int), false⟩ 0
      rw [hr2] at this
      have : Xl ≤ max (m : Int) 0 := this
      omega
    have hr3 := down_crash hok
    by_cases he : m = k
    · obtain rfl : f = 31 := by omega
      exact lf_c v ws n W hv hs hn1 hn2 hg2 m hm50 hm _ _ _ _ _ _ _ _ hr1 _ _ _ _ _ _ hr2 hok hXl _ _ _ _ _ hr3 he
    · exact lf_d v ws n W hv hs hn1 hn2 hg2 m hm50 hm _ _ _ _ _ _ _ _ _ hr1 _ _ _ _ _ _ hr2 hok hXl _ _ _ _ _ hr3 (by omega)

set_option maxRecDepth 100000 in
theorem diskLeft_lifted (os : Os) (started : os.Started) (H : Type) (enc : TypeId × Value → H) :
    ReturnsInHanded {} Try.checked os 7 .any (Rows.diskLeftSpec.pre6 enc Try.prog Try.f7 Rows.diskLeftRow.domain false) (Rows.diskLeftSpec.post enc Try.prog Try.f7 false true false false) := by
  refine returnsInHanded_of_change (C := Try.checked) own started (by kernel_rfl) Try.func7
    (ChangeSpec.witness6 (enc := enc) (C := Try.checked) false ⟨#[], #[.slice none 0 0, .int .i64 0], []⟩ 8 (by kernel_rfl) (by kernel_rfl) (by kernel_rfl) (by kernel_rfl)) ?_
  intro W base args ds gs before hval0 hW hcnd _
  have hval : ∀ (j : Nat) t v, Try.f7.params[j]? = some t → args[j]? = some v → Value.okWide Try.prog W .any base t v := hval0
  have hW' := hW
  obtain ⟨p, q, hA0, hV, rfl, hfz, hnd⟩ := hW
  have hA : DataW.TrodAll enc Try.prog W 0 (fun _ => true) true Try.f7.params.toList args.toList ds p := hA0
  rw [Try.params7] at hA hval
  obtain ⟨v0, vs0, d0, ds0, p0, q0, hargs, rfl, rfl, h0, r0⟩ := trodAll_cons hA
  obtain ⟨v1, vs1, d1, ds1, p1, q1, rfl, rfl, rfl, h1, r1⟩ := trodAll_cons r0
  obtain ⟨rfl, rfl, rfl⟩ := trodAll_nil r1
  obtain rfl : args = #[v0, v1] := by cases args; simp_all
  obtain ⟨rfl, rfl⟩ := trodVars_none hV
  obtain ⟨ws, hv, hs⟩ := open_writes (hval 0 32 v0 rfl rfl) h0
  obtain ⟨n, rfl, rfl, rfl, wn⟩ := open_int Try.underlying3 (hval 1 3 v1 rfl rfl) h1
  refine (left_walk v0 ws n W hv hs (bounds_i64 wn).1 (bounds_i64 wn).2).mono fun e W' ⟨he, hb⟩ => ⟨_, he, ?_⟩
  exact law_post rfl (by kernel_rfl) (by
    intro t ht
    have : t ∈ [32, 3] := by rw [Try.params7] at ht; exact ht
    simp only [List.mem_cons, List.not_mem_nil, or_false] at this
    rcases this with rfl | rfl <;> exact ⟨by kernel_rfl, of_decide_eq_true (by kernel_rfl)⟩) hW' rfl hb
theorem diskLeft_over : Rows.diskLeftRow.holds Try.pinned (OpenSpec.ofChange Rows.diskLeftSpec) :=
  OpenClaim.holds_of_wide 7 Try.f7 rfl rfl rfl rfl rfl rfl rfl ⟨rfl, rfl, rfl, rfl, rfl⟩ rfl rfl rfl rfl rfl (by kernel_rfl) Try.func7 (by kernel_rfl)
    (of_decide_eq_true (by kernel_rfl)) (by unfold Func.isWrapper; first | (rw [if_pos (by decide +kernel)]; kernel_rfl) | (rw [if_neg (by decide +kernel)]; exact ⟨rfl, rfl⟩))
    (fun os started H enc _ => diskLeft_lifted os started H enc)
theorem diskLeft_proved : Rows.DiskLeftSaid := diskLeft_over
end Go.Proofs.Ytjgbnagacbiolaa
