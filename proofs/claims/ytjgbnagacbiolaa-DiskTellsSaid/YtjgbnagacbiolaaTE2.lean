/- Proved: for every two disks, every operation and every three numbers the law DiskTells of layer 1 returns true, and each argument reads behind the call as it read before. No condition. -/
import Derived.Test.YtjgbnagacbiolaaTE
namespace Go.Proofs.Ytjgbnagacbiolaa
open Go.RowKit
set_option linter.unusedVariables false
set_option linter.unusedSimpArgs false
open Go.ChangeShapes Go.WideShapes Go.ChangeAt
theorem tells_walk (b0 b1 y0 y1 vb : ByteArray) (s0 s1 c l t0 t1 oc ol vo vz vn n a b : Int) (dn on : Bool) (W : World) (fa : b0.size ≤ maxLen) (fb : b1.size ≤ maxLen) (fc : l ≤ 9223372036854775807) (ga : y0.size ≤ maxLen) (gb : y1.size ≤ maxLen) (hvb : vb.size ≤ maxLen) :
    Calls Try.prog 3 #[.agg #[.string b0, .int .i64 s0, .string b1, .int .i64 s1, .int .i64 c, .int .i64 l, .bool dn], .agg #[.string y0, .int .i64 t0, .string y1, .int .i64 t1, .int .i64 oc, .int .i64 ol, .bool on], .agg #[.int .i8 vo, .int .i64 vz, .string vb, .int .i64 vn], .int .i64 n, .int .i64 a, .int .i64 b] W (RetB true W) := by
  by_cases hg : 262144 < b0.size ∨ 262144 < b1.size
  · exact te_g1 b0 b1 y0 y1 vb s0 s1 c l t0 t1 oc ol vo vz vn n a b dn on W fa fb fc ga gb hvb hg
  by_cases hg2 : 262144 < y0.size ∨ 262144 < y1.size
  · exact te_g2 b0 b1 y0 y1 vb s0 s1 c l t0 t1 oc ol vo vz vn n a b dn on W fa fb fc ga gb hvb hg hg2
  by_cases hg3 : 4096 < vb.size
  · exact te_g3 b0 b1 y0 y1 vb s0 s1 c l t0 t1 oc ol vo vz vn n a b dn on W fa fb fc ga gb hvb hg hg2 hg3
  obtain ⟨⟨⟨⟨K0, Ks⟩, ⟨K1, Kt⟩, Kc, Kl, Kd⟩, Ke⟩, hr1⟩ : ∃ r, doF ⟨⟨b0, s0⟩, ⟨b1, s1⟩, c, l, dn⟩ vo vz vb vn = r := ⟨_, rfl⟩
  obtain ⟨⟨⟨⟨M0, Ms⟩, ⟨M1, Mt⟩, Mc, Ml, Md⟩, Me⟩, hr2⟩ : ∃ r, armF ⟨⟨b0, s0⟩, ⟨b1, s1⟩, c, l, dn⟩ n = r := ⟨_, rfl⟩
  obtain ⟨⟨⟨⟨J0, Js⟩, ⟨J1, Jt⟩, Jc, Jl, Jd⟩, Je⟩, hr3⟩ : ∃ r, crashF ⟨⟨b0, s0⟩, ⟨b1, s1⟩, c, l, dn⟩ a b = r := ⟨_, rfl⟩
  obtain ⟨⟨⟨⟨I0, Is⟩, ⟨I1, It⟩, Ic, Il, Id⟩, Ie⟩, hr4⟩ : ∃ r, newF n = r := ⟨_, rfl⟩
  exact te_ok b0 b1 y0 y1 vb s0 s1 c l t0 t1 oc ol vo vz vn n a b dn on W fa fb fc ga gb hvb hr1 hr2 hr3 hr4 hg hg2 hg3

set_option maxRecDepth 100000 in
theorem diskTells_lifted (os : Os) (started : os.Started) (H : Type) (enc : TypeId × Value → H) :
    ReturnsInHanded {} Try.checked os 3 .any (Rows.diskTellsSpec.pre6 enc Try.prog Try.f3 Rows.diskTellsRow.domain false) (Rows.diskTellsSpec.post enc Try.prog Try.f3 false true false false) := by
  refine returnsInHanded_of_change (C := Try.checked) own started (by kernel_rfl) Try.func3
    (ChangeSpec.witness6 (enc := enc) (C := Try.checked) false ⟨#[], #[.agg #[.string ⟨#[]⟩, .int .i64 0, .string ⟨#[]⟩, .int .i64 0, .int .i64 0, .int .i64 0, .bool false], .agg #[.string ⟨#[]⟩, .int .i64 0, .string ⟨#[]⟩, .int .i64 0, .int .i64 0, .int .i64 0, .bool false], .agg #[.int .i8 0, .int .i64 0, .string ⟨#[]⟩, .int .i64 0], .int .i64 0, .int .i64 0, .int .i64 0], []⟩ 8 (by kernel_rfl) (by kernel_rfl) (by kernel_rfl) (by kernel_rfl)) ?_
  intro W base args ds gs before hval0 hW hcnd _
  have hval : ∀ (j : Nat) t v, Try.f3.params[j]? = some t → args[j]? = some v → Value.okWide Try.prog W .any base t v := hval0
  have hW' := hW
  obtain ⟨p, q, hA0, hV, rfl, hfz, hnd⟩ := hW
  have hA : DataW.TrodAll enc Try.prog W 0 (fun _ => true) true Try.f3.params.toList args.toList ds p := hA0
  rw [Try.params3] at hA hval
  obtain ⟨v0, vs0, d0, ds0, p0, q0, hargs, rfl, rfl, h0, r0⟩ := trodAll_cons hA
  obtain ⟨v1, vs1, d1, ds1, p1, q1, rfl, rfl, rfl, h1, r1⟩ := trodAll_cons r0
  obtain ⟨v2, vs2, d2, ds2, p2, q2, rfl, rfl, rfl, h2, r2⟩ := trodAll_cons r1
  obtain ⟨v3, vs3, d3, ds3, p3, q3, rfl, rfl, rfl, h3, r3⟩ := trodAll_cons r2
  obtain ⟨v4, vs4, d4, ds4, p4, q4, rfl, rfl, rfl, h4, r4⟩ := trodAll_cons r3
  obtain ⟨v5, vs5, d5, ds5, p5, q5, rfl, rfl, rfl, h5, r5⟩ := trodAll_cons r4
  obtain ⟨rfl, rfl, rfl⟩ := trodAll_nil r5
  obtain rfl : args = #[v0, v1, v2, v3, v4, v5] := by cases args; simp_all
  obtain ⟨rfl, rfl⟩ := trodVars_none hV
  obtain ⟨b0, s0, b1, s1, c, l, dn, rfl, fa, fb, fc⟩ := open_disk (hval 0 26 v0 rfl rfl) h0
  obtain ⟨y0, t0, y1, t1, oc, ol, on, rfl, ga, gb, gc⟩ := open_disk (hval 1 26 v1 rfl rfl) h1
  obtain ⟨vo, vz, vb, vn, rfl, hvb⟩ := open_write (hval 2 29 v2 rfl rfl) h2
  obtain ⟨n, rfl, rfl, rfl, wn⟩ := open_int Try.underlying3 (hval 3 3 v3 rfl rfl) h3
  obtain ⟨a, rfl, rfl, rfl, wa⟩ := open_int Try.underlying3 (hval 4 3 v4 rfl rfl) h4
  obtain ⟨b, rfl, rfl, rfl, wb⟩ := open_int Try.underlying3 (hval 5 3 v5 rfl rfl) h5
  refine (tells_walk b0 b1 y0 y1 vb s0 s1 c l t0 t1 oc ol vo vz vn n a b dn on W fa fb fc ga gb hvb).mono fun e W' ⟨he, hb⟩ => ⟨_, he, ?_⟩
  exact law_post rfl (by kernel_rfl) (by
    intro t ht
    have : t ∈ [26, 26, 29, 3, 3, 3] := by rw [Try.params3] at ht; exact ht
    simp only [List.mem_cons, List.not_mem_nil, or_false] at this
    rcases this with rfl | rfl | rfl | rfl | rfl | rfl <;> exact ⟨by kernel_rfl, of_decide_eq_true (by kernel_rfl)⟩) hW' rfl hb
theorem diskTells_over : Rows.diskTellsRow.holds Try.pinned (OpenSpec.ofChange Rows.diskTellsSpec) :=
  OpenClaim.holds_of_wide 3 Try.f3 rfl rfl rfl rfl rfl rfl rfl ⟨rfl, rfl, rfl, rfl, rfl⟩ rfl rfl rfl rfl rfl (by kernel_rfl) Try.func3 (by kernel_rfl)
    (of_decide_eq_true (by kernel_rfl)) (by unfold Func.isWrapper; first | (rw [if_pos (by decide +kernel)]; kernel_rfl) | (rw [if_neg (by decide +kernel)]; exact ⟨rfl, rfl⟩))
    (fun os started H enc _ => diskTells_lifted os started H enc)
theorem diskTells_proved : Rows.DiskTellsSaid := diskTells_over
end Go.Proofs.Ytjgbnagacbiolaa
