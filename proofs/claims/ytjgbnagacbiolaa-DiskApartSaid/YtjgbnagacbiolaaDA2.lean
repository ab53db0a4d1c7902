/- Proved: for every disk and every two operations the law DiskApart of layer 1 returns true, and each argument reads behind the call as it read before. No condition. -/
import Derived.Test.YtjgbnagacbiolaaDA
namespace Go.Proofs.Ytjgbnagacbiolaa
open Go.RowKit
set_option linter.unusedVariables false
set_option linter.unusedSimpArgs false
open Go.ChangeShapes Go.WideShapes Go.ChangeAt
theorem apart_walk (b0 b1 vb ub : ByteArray) (s0 s1 c l vo vz vn uo uz un : Int) (dn : Bool) (W : World) (hfit : Dk.fit ⟨⟨b0, s0⟩, ⟨b1, s1⟩, c, l, dn⟩) (hvb : vb.size ≤ maxLen) (hub : ub.size ≤ maxLen) :
    Calls Try.prog 6 #[.agg #[.string b0, .int .i64 s0, .string b1, .int .i64 s1, .int .i64 c, .int .i64 l, .bool dn], .agg #[.int .i8 vo, .int .i64 vz, .string vb, .int .i64 vn], .agg #[.int .i8 uo, .int .i64 uz, .string ub, .int .i64 un]] W (RetB true W) := by
  by_cases hg : 262144 < b0.size ∨ 262144 < b1.size
  · exact ap_great b0 b1 vb ub s0 s1 c l vo vz vn uo uz un dn W hfit hvb hub hg
  by_cases hg2 : 4096 < vb.size ∨ 4096 < ub.size
  · exact ap_gw b0 b1 vb ub s0 s1 c l vo vz vn uo uz un dn W hfit hvb hub hg hg2
  by_cases hz : vz = uz
  · exact ap_eq b0 b1 vb ub s0 s1 c l vo vz vn uo uz un dn W hfit hvb hub hg hg2 hz
  by_cases hl : 0 ≤ l
  · exact ap_left b0 b1 vb ub s0 s1 c l vo vz vn uo uz un dn W hfit hvb hub hg hg2 hz hl
  have hl : l < 0 := by omega
  obtain ⟨⟨⟨⟨a0, p0⟩, ⟨a1, p1⟩, ac, al, ad⟩, x1⟩, hr1⟩ : ∃ r, doF ⟨⟨b0, s0⟩, ⟨b1, s1⟩, c, l, dn⟩ vo vz vb vn = r := ⟨_, rfl⟩
  obtain ⟨⟨⟨⟨e0, g0⟩, ⟨e1, g1⟩, ec, el, ed⟩, x2⟩, hr2⟩ : ∃ r, doF ⟨⟨b0, s0⟩, ⟨b1, s1⟩, c, l, dn⟩ uo uz ub un = r := ⟨_, rfl⟩
  by_cases hx1 : x1 = 0
  rotate_left 1
  · exact ap_e1 b0 b1 vb ub s0 s1 c l vo vz vn uo uz un dn W hfit hvb hub hg hg2 hz hl a0 a1 e0 e1 p0 p1 ac al g0 g1 ec el x1 x2 ad ed hr1 hr2 hx1
  subst hx1
  by_cases hx2 : x2 = 0
  rotate_left 1
  · exact ap_e2 b0 b1 vb ub s0 s1 c l vo vz vn uo uz un dn W hfit hvb hub hg hg2 hz hl a0 a1 e0 e1 p0 p1 ac al g0 g1 ec el x2 ad ed hr1 hr2 hx2
  subst hx2
  obtain ⟨⟨⟨m0, n0⟩, ⟨m1, n1⟩, mc, ml, md⟩, hr3, hr4⟩ := apart (d := ⟨⟨b0, s0⟩, ⟨b1, s1⟩, c, l, dn⟩) hz hl hr1 hr2
  have q1 := doF_ok hr1
  have q2 := doF_ok hr2
  have hfa : Dk.fit ⟨⟨a0, p0⟩, ⟨a1, p1⟩, ac, al, ad⟩ := fit_of_ok q1.1 (by have : al ≤ max l 0 := q1.2.1; show al ≤ _; omega)
  have hfe : Dk.fit ⟨⟨e0, g0⟩, ⟨e1, g1⟩, ec, el, ed⟩ := fit_of_ok q2.1 (by have : el ≤ max l 0 := q2.2.1; show el ≤ _; omega)
  exact ap_ok b0 b1 vb ub s0 s1 c l vo vz vn uo uz un dn W hfit hvb hub hg hg2 hz hl a0 a1 e0 e1 p0 p1 ac al g0 g1 ec el ad ed hr1 hr2 m0 m1 n0 n1 mc ml md hr3 hr4 hfa hfe

set_option maxRecDepth 100000 in
theorem diskApart_lifted (os : Os) (started : os.Started) (H : Type) (enc : TypeId × Value → H) :
    ReturnsInHanded {} Try.checked os 6 .any (Rows.diskApartSpec.pre6 enc Try.prog Try.f6 Rows.diskApartRow.domain false) (Rows.diskApartSpec.post enc Try.prog Try.f6 false true false false) := by
  refine returnsInHanded_of_change (C := Try.checked) own started (by kernel_rfl) Try.func6
    (ChangeSpec.witness6 (enc := enc) (C := Try.checked) false ⟨#[], #[.agg #[.string ⟨#[]⟩, .int .i64 0, .string ⟨#[]⟩, .int .i64 0, .int .i64 0, .int .i64 0, .bool false], .agg #[.int .i8 0, .int .i64 0, .string ⟨#[]⟩, .int .i64 0], .agg #[.int .i8 0, .int .i64 0, .string ⟨#[]⟩, .int .i64 0]], []⟩ 8 (by kernel_rfl) (by kernel_rfl) (by kernel_rfl) (by kernel_rfl)) ?_
  intro W base args ds gs before hval0 hW hcnd _
  have hval : ∀ (j : Nat) t v, Try.f6.params[j]? = some t → args[j]? = some v → Value.okWide Try.prog W .any base t v := hval0
  have hW' := hW
  obtain ⟨p, q, hA0, hV, rfl, hfz, hnd⟩ := hW
  have hA : DataW.TrodAll enc Try.prog W 0 (fun _ => true) true Try.f6.params.toList args.toList ds p := hA0
  rw [Try.params6] at hA hval
  obtain ⟨v0, vs0, d0, ds0, p0, q0, hargs, rfl, rfl, h0, r0⟩ := trodAll_cons hA
  obtain ⟨v1, vs1, d1, ds1, p1, q1, rfl, rfl, rfl, h1, r1⟩ := trodAll_cons r0
  obtain ⟨v2, vs2, d2, ds2, p2, q2, rfl, rfl, rfl, h2, r2⟩ := trodAll_cons r1
  obtain ⟨rfl, rfl, rfl⟩ := trodAll_nil r2
  obtain rfl : args = #[v0, v1, v2] := by cases args; simp_all
  obtain ⟨rfl, rfl⟩ := trodVars_none hV
  obtain ⟨b0, s0, b1, s1, c, l, dn, rfl, hfit⟩ := open_disk (hval 0 26 v0 rfl rfl) h0
  obtain ⟨vo, vz, vb, vn, rfl, hvb⟩ := open_write (hval 1 29 v1 rfl rfl) h1
  obtain ⟨uo, uz, ub, un, rfl, hub⟩ := open_write (hval 2 29 v2 rfl rfl) h2
  refine (apart_walk b0 b1 vb ub s0 s1 c l vo vz vn uo uz un dn W hfit hvb hub).mono fun e W' ⟨he, hb⟩ => ⟨_, he, ?_⟩
  exact law_post rfl (by kernel_rfl) (by
    intro t ht
    have : t ∈ [26, 29, 29] := by rw [Try.params6] at ht; exact ht
    simp only [List.mem_cons, List.not_mem_nil, or_false] at this
    rcases this with rfl | rfl | rfl <;> exact ⟨by kernel_rfl, of_decide_eq_true (by kernel_rfl)⟩) hW' rfl hb
theorem diskApart_over : Rows.diskApartRow.holds Try.pinned (OpenSpec.ofChange Rows.diskApartSpec) :=
  OpenClaim.holds_of_wide 6 Try.f6 rfl rfl rfl rfl rfl rfl rfl ⟨rfl, rfl, rfl, rfl, rfl⟩ rfl rfl rfl rfl rfl (by kernel_rfl) Try.func6 (by kernel_rfl)
    (of_decide_eq_true (by kernel_rfl)) (by unfold Func.isWrapper; first | (rw [if_pos (by decide +kernel)]; kernel_rfl) | (rw [if_neg (by decide +kernel)]; exact ⟨rfl, rfl⟩))
    (fun os started H enc _ => diskApart_lifted os started H enc)
theorem diskApart_proved : Rows.DiskApartSaid := diskApart_over
end Go.Proofs.Ytjgbnagacbiolaa
