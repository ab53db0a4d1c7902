/- The contracts of Plain, Bad, Blank, Take, the program's. -/
import Derived.Test.YtehehmpepkgbeaaDoorCE
namespace Go.Proofs.YtehehmpepkgbeaaDoor.Chr
open Go.RowKit
set_option linter.unusedVariables false
set_option linter.unusedSimpArgs false
def RetT (x : List UInt8) (w : World) (e : Ending) (w' : World) : Prop := e = .returned (.string (str x)) ∧ Below w.heap.size w w'
theorem strl (l : List UInt8) : (str l).data.toList = l := rfl
theorem strz (l : List UInt8) : (str l).size = l.length := str_size l
theorem ints_one (w : World) (n : Int) (T : TypeId) : Ints (w.alloc (.cells #[.int .i64 n] T)) (.slice (some ⟨w.heap.size, 0, none⟩) 1 1) [n] :=
  .inr ⟨w.heap.size, 0, 1, rfl, by simp, fun i hi => by
    have : i = 0 := by simpa using hi
    subst this
    exact (Blk.new w #[.int .i64 n] T).cell 0⟩
set_option maxHeartbeats 2000000 in
theorem ptake_any (l : List UInt8) (w : World) (hg : Gl w) (hs : l.length ≤ 100000) : Calls Tryd.prog 26 #[.string (str l)] w fun e w' => RetI (tk l : Nat) w e w' := by
  have HN : Hid (∀ w2 v, Ints w2 v [58] → Below w.heap.size w w2 → Calls Tryd.prog 35 #[.string (str l), v] w2 fun e w' => RetI (tk l : Nat) w2 e w') := Lib.hid fun w2 v h hb => by
    have := pname_any (str l) v [58] w2 (hg.below' hb) (by rw [strz]; exact hs) h (by decide) (by decide)
    rwa [strl, go_take] at this
  obtain ⟨x, hx⟩ : ∃ x : Int, ((tk l : Nat) : Int) = x := ⟨_, rfl⟩
  rw [hx] at HN ⊢
  obtain ⟨S, hS⟩ : ∃ S, str l = S := ⟨_, rfl⟩
  rw [hS] at HN ⊢
  clear hx hS hg
  go_enter Tryd.func26, Tryd.ntmps26
  go_wp2_with (go_at_call 35; refine (HN.out _ _ (ints_one _ _ _) ((Below.refl _ _).alloc (Nat.le_refl _) _)).mono ?_; rintro _ w9 ⟨rfl, hb9⟩)
  go_ret
  exact ⟨rfl, below_call ((Below.refl _ w).alloc (Nat.le_refl _) _) hb9⟩
set_option maxHeartbeats 2000000 in
theorem pblank_any (l : List UInt8) (w : World) (hg : Gl w) (hs : l.length ≤ 100000) : Calls Tryd.prog 24 #[.string (str l)] w fun e w' => RetB (blk l) w e w' := by
  have HN : Hid (Calls Tryd.prog 37 #[.string (str l), .func (.func 11) #[] #[]] w fun e w' => RetI (goQ spcQ (prt l) 0 : Nat) w e w') := Lib.hid (by
    have := prun_space (str l) w hg (by rw [strz]; exact hs)
    rwa [strl] at this)
  have HB := Lib.hid (go_blk l)
  have hz := strz l
  obtain ⟨x, hx⟩ : ∃ x, goQ spcQ (prt l) 0 = x := ⟨_, rfl⟩
  rw [hx] at HN HB
  rw [HB.out, ← hz]
  obtain ⟨S, hS⟩ : ∃ S, str l = S := ⟨_, rfl⟩
  rw [hS] at HN ⊢
  clear hx hS hg HB hz hs
  by_cases h : x = S.size
  · have h1 : ((x : Int) == (S.size : Int)) = true := by rw [h]; simp
    rw [decide_eq_true h]
    clear h
    go_enter Tryd.func24, Tryd.ntmps24
    go_wp2_with (go_at_call 37; refine HN.out.mono ?_; rintro _ w9 ⟨rfl, hb9⟩)
    go_ret
    exact ⟨rfl, hb9⟩
  · have h1 : ((x : Int) == (S.size : Int)) = false := by simp; omega
    rw [decide_eq_false h]
    clear h
    go_enter Tryd.func24, Tryd.ntmps24
    go_wp2_with (go_at_call 37; refine HN.out.mono ?_; rintro _ w9 ⟨rfl, hb9⟩)
    go_ret
    exact ⟨rfl, hb9⟩
set_option maxHeartbeats 2000000 in
theorem pbad_any (l : List UInt8) (w : World) (hg : Gl w) (hs : l.length ≤ 100000) : Calls Tryd.prog 22 #[.string (str l)] w fun e w' => RetI (bad l) w e w' := by
  have HN : Hid (Calls Tryd.prog 37 #[.string (str l), .func (.func 9) #[] #[]] w fun e w' => RetI (goQ chrQ (prt l) 0 : Nat) w e w') := Lib.hid (by
    have := prun_char (str l) w hg (by rw [strz]; exact hs)
    rwa [strl] at this)
  have HB := Lib.hid (go_bad l)
  have hz := strz l
  obtain ⟨x, hx⟩ : ∃ x, goQ chrQ (prt l) 0 = x := ⟨_, rfl⟩
  rw [hx] at HN HB
  rw [HB.out, ← hz]
  obtain ⟨S, hS⟩ : ∃ S, str l = S := ⟨_, rfl⟩
  rw [hS] at HN ⊢
  clear hx hS hg HB hz hs
  by_cases h : x = S.size
  · have h1 : ((x : Int) == (S.size : Int)) = true := by rw [h]; simp
    rw [if_pos h]
    clear h
    go_enter Tryd.func22, Tryd.ntmps22
    go_wp2_with (go_at_call 37; refine HN.out.mono ?_; rintro _ w9 ⟨rfl, hb9⟩)
    go_ret
    exact ⟨rfl, hb9⟩
  · have h1 : ((x : Int) == (S.size : Int)) = false := by simp; omega
    rw [if_neg h]
    clear h
    go_enter Tryd.func22, Tryd.ntmps22
    go_wp2_with (go_at_call 37; refine HN.out.mono ?_; rintro _ w9 ⟨rfl, hb9⟩)
    go_ret
    exact ⟨rfl, hb9⟩
set_option maxHeartbeats 2000000 in
theorem pplain_any (l : List UInt8) (w : World) (hg : Gl w) (hs : l.length ≤ 100000) : Calls Tryd.prog 20 #[.string (str l)] w fun e w' => RetB (plain l) w e w' := by
  have HN : Hid (Calls Tryd.prog 35 #[.string (str l), .slice none 0 0] w fun e w' => RetI (goQ (nmQ []) (prt l) 0 : Nat) w e w') := Lib.hid (by
    have := pname_any (str l) (.slice none 0 0) [] w hg (by rw [strz]; exact hs) (.inl ⟨rfl, none, 0, rfl⟩) (by decide) (by decide)
    rwa [strl] at this)
  have HB := Lib.hid (go_plain l)
  have hz := strz l
  obtain ⟨x, hx⟩ : ∃ x, goQ (nmQ []) (prt l) 0 = x := ⟨_, rfl⟩
  rw [hx] at HN HB
  have hem : l.isEmpty = decide ((str l).size = 0) := by rw [hz]; cases l <;> simp
  rw [HB.out, ← hz, hem]
  obtain ⟨S, hS⟩ : ∃ S, str l = S := ⟨_, rfl⟩
  rw [hS] at HN ⊢
  clear hx hS hg HB hz hs hem
  by_cases he : S.size = 0
  · have he1 : S.toList.isEmpty = true := (emp_iff S).2 he
    have he2 : S.toList = [] := (nil_iff S).2 he
    rw [decide_eq_true he]
    clear he
    go_enter Tryd.func20, Tryd.ntmps20
    go_wp2_with (go_at_call 35; refine HN.out.mono ?_; rintro _ w9 ⟨rfl, hb9⟩)
    go_ret
    exact ⟨rfl, Below.refl _ _⟩
  · have he1 : S.toList.isEmpty = false := (nemp_iff S).2 he
    have he2 : ¬ S.toList = [] := fun h => he ((nil_iff S).1 h)
    rw [decide_eq_false he]
    clear he
    by_cases h : x = S.size
    · have h1 : ((x : Int) == (S.size : Int)) = true := by rw [h]; simp
      rw [decide_eq_true h]
      clear h
      go_enter Tryd.func20, Tryd.ntmps20
      go_wp2_with (go_at_call 35; refine HN.out.mono ?_; rintro _ w9 ⟨rfl, hb9⟩)
      go_ret
      exact ⟨rfl, hb9⟩
    · have h1 : ((x : Int) == (S.size : Int)) = false := by simp; omega
      rw [decide_eq_false h]
      clear h
      go_enter Tryd.func20, Tryd.ntmps20
      go_wp2_with (go_at_call 35; refine HN.out.mono ?_; rintro _ w9 ⟨rfl, hb9⟩)
      go_ret
      exact ⟨rfl, hb9⟩
end Go.Proofs.YtehehmpepkgbeaaDoor.Chr
