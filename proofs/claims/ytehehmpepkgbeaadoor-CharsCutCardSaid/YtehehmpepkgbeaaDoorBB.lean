/- The contracts of utf8.Put, Next and Text. -/
import Derived.Test.YtehehmpepkgbeaaDoorBA
import Derived.Laws.BytesArg
import Derived.Laws.IdiomStrings
namespace Go.Proofs.YtehehmpepkgbeaaDoor
open Go.RowKit
set_option linter.unusedVariables false
set_option linter.unusedSimpArgs false
def str (xs : List UInt8) : ByteArray := ⟨xs.toArray⟩
theorem str_list (xs : List UInt8) : (str xs).data.toList = xs := rfl
theorem str_size (xs : List UInt8) : (str xs).size = xs.length := by simp [str, ByteArray.size]
theorem str_eta (s : ByteArray) : str s.data.toList = s := by simp [str]
theorem conv_own {w : World} {base : Nat} {v : Value} {xs : List UInt8} (h : Own8 w base v xs) : (convert 29 9 v).run Tryd.prog w = .ok (.string (str xs)) w := by
  rcases h.2 with ⟨rfl, h0⟩ | ⟨g, cap, cur, rfl, hb, hg, hcap, hm, hsz, ht⟩
  · have : xs = [] := List.eq_nil_of_length_eq_zero h0
    subst this
    exact run_convert_bytes_nil (P := Tryd.prog) w 29 5 Tryd.underlying29 Tryd.underlying5 0 0 9 Tryd.underlying9
  · have := run_convert_bytes_arg (P := Tryd.prog) w 29 5 Tryd.underlying29 Tryd.underlying5 g 0 xs.length cap (xs.map fun b => (b.toNat : Int)) (by simp) (by
      intro i hi
      have hc := (World.ownsRow.cells (g := g) h rfl) i (u8v xs[i]) (by simp [hi])
      have hadd : (⟨g, 0, none⟩ : Addr).add i = ⟨g, 0 + i, none⟩ := by unfold Addr.add; split <;> simp_all
      rw [hadd] at hc
      rw [hc]
      simp [u8v, List.getD, hi]) 9 Tryd.underlying9
    rw [this]
    simp [strOfNums, str, Function.comp_def]
theorem own_nil (w : World) (base : Nat) : Own8 w base (.slice none 0 0) [] := World.ownsRow_nil w base 5 1
theorem below_of_grown {w w' : World} {row : Option Nat} (h : w.grownBy w' row) {B : Nat} (hB : B ≤ w.heap.size) (hr : ∀ k, row = some k → B ≤ k) : Below B w w' := by
  have := (Below.refl B w).grown h hB (fun k e => hr k (by simpa using e))
  exact this
def PutS (w : World) (r : Int) (e : Ending) (w' : World) : Prop := e = .returned (.tuple #[.string (str (enc r)), .bool (isB r)]) ∧ Below w.heap.size w w'
/-- What utf8.Next tells. -/
def nxt (s : ByteArray) (a : Int) : Int × Int × Bool :=
  if 0 ≤ a ∧ a < s.size then
    if (dec (s.data.toList.drop a.toNat)).1 = -1 then (0, 0, false) else ((dec (s.data.toList.drop a.toNat)).1, ((dec (s.data.toList.drop a.toNat)).2 : Int), true)
  else (0, 0, false)
def NextS (w : World) (s : ByteArray) (a : Int) (e : Ending) (w' : World) : Prop := e = .returned (.tuple #[.int .i64 (nxt s a).1, .int .i64 (nxt s a).2.1, .bool (nxt s a).2.2]) ∧ w = w'
theorem nxt_out {s : ByteArray} {a : Int} (h : ¬ (0 ≤ a ∧ a < s.size)) : nxt s a = (0, 0, false) := by unfold nxt; rw [if_neg h]
theorem next_any (s : ByteArray) (a : Int) (w : World) (hg : Gl w) (hs : s.size ≤ 100000) : Calls Tryd.prog 49 #[.string s, .int .i64 a] w fun e w' => NextS w s a e w' := by
  by_cases h0 : a < 0
  · have HE : Hid (NextS w s a (.returned (.tuple #[.int .i64 0, .int .i64 0, .bool false])) w) := Lib.hid (by
      unfold NextS; rw [nxt_out (by omega)]; exact ⟨rfl, rfl⟩)
    have hd : decide (a < 0) = true := by simpa using h0
    go_enter Tryd.func49, Tryd.ntmps49
    go_wp2_with fail
    go_ret3
    exact HE.out
  obtain ⟨a, rfl⟩ := Int.eq_ofNat_of_zero_le (show 0 ≤ a by omega)
  have hd : decide ((a : Int) < 0) = false := by simp
  by_cases h1 : a < s.size
  rotate_left 1
  · have HE : Hid (NextS w s a (.returned (.tuple #[.int .i64 0, .int .i64 0, .bool false])) w) := Lib.hid (by
      unfold NextS; rw [nxt_out (by omega)]; exact ⟨rfl, rfl⟩)
    have h1' : s.size ≤ a := by omega
    have hd2 : decide (s.size ≤ a) = true := by simpa using h1'
    go_enter Tryd.func49, Tryd.ntmps49
    go_wp2_with fail
    go_ret3
    exact HE.out
  obtain ⟨r, n, hR⟩ : ∃ r n, dec (s.data.toList.drop a) = (r, n) := ⟨_, _, rfl⟩
  have hrd := read_any s a w hg hs h1
  rw [hR] at hrd
  have Hrd := Lib.hid hrd
  by_cases hr : r = -1
  · have HE : Hid (NextS w s a (.returned (.tuple #[.int .i64 0, .int .i64 0, .bool false])) w) := Lib.hid (by
      unfold NextS nxt; rw [if_pos (by omega)]; simp only [Int.toNat_natCast, hR]; rw [if_pos hr]; exact ⟨rfl, trivial⟩)
    have hrb : (r == -1) = true := by simpa using hr
    clear hr hR hrd
    have h2 : ¬ (s.size : Int) ≤ a := by omega
    go_enter Tryd.func49, Tryd.ntmps49
    go_wp2_with (go_at_call 62; refine Hrd.out.mono ?_; rintro e w' ⟨rfl, rfl⟩)
    go_ret3
    exact HE.out
  · have HE : Hid (NextS w s a (.returned (.tuple #[.int .i64 r, .int .i64 n, .bool true])) w) := Lib.hid (by
      unfold NextS nxt; rw [if_pos (by omega)]; simp only [Int.toNat_natCast, hR]; rw [if_neg hr]; exact ⟨rfl, trivial⟩)
    have hrb : (r == -1) = false := by simpa using hr
    clear hr hR hrd
    have h2 : ¬ (s.size : Int) ≤ a := by omega
    go_enter Tryd.func49, Tryd.ntmps49
    go_wp2_with (go_at_call 62; refine Hrd.out.mono ?_; rintro e w' ⟨rfl, rfl⟩)
    go_ret3
    exact HE.out
end Go.Proofs.YtehehmpepkgbeaaDoor
