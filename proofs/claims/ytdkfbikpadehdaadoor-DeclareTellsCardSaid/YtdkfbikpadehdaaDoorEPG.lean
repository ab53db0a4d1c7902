/- The contracts of the program's Mark, Shape, Cut. -/
import Derived.Test.YtdkfbikpadehdaaDoorEPF
namespace Go.Proofs.YtdkfbikpadehdaaDoor.Dec
open Go.RowKit
set_option linter.unusedVariables false
set_option linter.unusedSimpArgs false
open Lab (RetS ret_str str str_size str_list str_eta str_inj u8v info5 info_parts)
def MarkR (l : List UInt8) (w : World) (e : Ending) (w' : World) : Prop := e = .returned (markV (mrk l)) ∧ Below w.heap.size w w'
def ShapeR (l : List UInt8) (w : World) (e : Ending) (w' : World) : Prop := e = .returned (shapeV (shp l)) ∧ Below w.heap.size w w'
def CutR (l : List UInt8) (w : World) (e : Ending) (w' : World) : Prop := e = .returned (.string (str (cut l))) ∧ Below w.heap.size w w'
theorem markV_form (r : Option (Nat × Nat)) : ∃ (a n : Int) (b : Bool), markV r = .tuple #[.int .i8 a, .int .i64 n, .bool b] := by
  cases r with
  | none => exact ⟨0, 0, false, rfl⟩
  | some m => exact ⟨m.1, m.2, true, rfl⟩
theorem shapeV_form (r : Option Nat) : ∃ (a : Int) (b : Bool), shapeV r = .tuple #[.int .i8 a, .bool b] := by
  cases r with
  | none => exact ⟨0, false, rfl⟩
  | some m => exact ⟨m, true, rfl⟩
theorem scanV_form (r : Option (List UInt8)) : ∃ (x : List UInt8) (b : Bool), scanV r = .tuple #[.string (str x), .bool b] := by
  cases r with
  | none => exact ⟨[], false, rfl⟩
  | some x => exact ⟨x, true, rfl⟩

set_option maxHeartbeats 1000000 in
theorem pmark_any (l : List UInt8) (w : World) : Calls Tryd.prog 8 #[.string (str l)] w fun e w' => MarkR l w e w' := by
  obtain ⟨a, n, b, h⟩ := markV_form (mrk l)
  have HB : Hid (∀ w : World, Calls Tryd.prog 19 #[.string (str l), .slice (some ⟨w.heap.size, 0, none⟩) 3 3] (w.alloc (.cells #[.int .i8 0, .string ⟨#[239, 187, 191]⟩, .int .i8 1, .string ⟨#[255, 254]⟩, .int .i8 2, .string ⟨#[254, 255]⟩] 42)) fun e w' => e = .returned (.tuple #[.int .i8 a, .int .i64 n, .bool b]) ∧ Below (w.alloc (.cells #[.int .i8 0, .string ⟨#[239, 187, 191]⟩, .int .i8 1, .string ⟨#[255, 254]⟩, .int .i8 2, .string ⟨#[254, 255]⟩] 42)).heap.size (w.alloc (.cells #[.int .i8 0, .string ⟨#[239, 187, 191]⟩, .int .i8 1, .string ⟨#[255, 254]⟩, .int .i8 2, .string ⟨#[254, 255]⟩] 42)) w') := Lib.hid fun (w : World) => by
    have := begins_mark l w.heap.size (w.alloc (.cells markC 42)) (Blk.new _ _ _)
    unfold bgM at this
    rw [h] at this
    exact this
  unfold MarkR
  rw [h]
  clear h
  obtain ⟨s, hs'⟩ : ∃ s, str l = s := ⟨_, rfl⟩
  rw [hs'] at HB ⊢
  clear hs'
  go_enter Tryd.func8, Tryd.ntmps8
  go_wp2_with (go_at_call 19; refine (HB.out _).mono ?_; rintro _ w1 ⟨rfl, hb1⟩; clear HB)
  go_ret3
  exact ⟨rfl, ((Below.refl _ w).alloc (Nat.le_refl _) _).trans (hb1.mono (by simp))⟩
theorem bgS_form (l : List UInt8) : ∃ (a n : Int) (b : Bool), bgS l = .tuple #[.int .i8 a, .int .i64 n, .bool b] ∧ shapeV (shp l) = .tuple #[.int .i8 a, .bool b] := by
  unfold bgS
  cases shp l with
  | none => exact ⟨0, 0, false, rfl, rfl⟩
  | some m => exact ⟨m, 4, true, rfl, rfl⟩
set_option maxHeartbeats 1000000 in
theorem pshape_any (l : List UInt8) (w : World) : Calls Tryd.prog 12 #[.string (str l)] w fun e w' => ShapeR l w e w' := by
  obtain ⟨a, n, b, h, h2⟩ := bgS_form l
  have HB : Hid (∀ w : World, Calls Tryd.prog 19 #[.string (str l), .slice (some ⟨w.heap.size, 0, none⟩) 2 2] (w.alloc (.cells #[.int .i8 1, .string ⟨#[60, 0, 63, 0]⟩, .int .i8 2, .string ⟨#[0, 60, 0, 63]⟩] 42)) fun e w' => e = .returned (.tuple #[.int .i8 a, .int .i64 n, .bool b]) ∧ Below (w.alloc (.cells #[.int .i8 1, .string ⟨#[60, 0, 63, 0]⟩, .int .i8 2, .string ⟨#[0, 60, 0, 63]⟩] 42)).heap.size (w.alloc (.cells #[.int .i8 1, .string ⟨#[60, 0, 63, 0]⟩, .int .i8 2, .string ⟨#[0, 60, 0, 63]⟩] 42)) w') := Lib.hid fun (w : World) => by
    have := begins_shape l w.heap.size (w.alloc (.cells shapeC 42)) (Blk.new _ _ _)
    rw [h] at this
    exact this
  unfold ShapeR
  rw [h2]
  clear h h2
  obtain ⟨s, hs'⟩ : ∃ s, str l = s := ⟨_, rfl⟩
  rw [hs'] at HB ⊢
  clear hs'
  go_enter Tryd.func12, Tryd.ntmps12
  go_wp2_with (go_at_call 19; refine (HB.out _).mono ?_; rintro _ w1 ⟨rfl, hb1⟩; clear HB)
  go_ret2
  exact ⟨rfl, ((Below.refl _ w).alloc (Nat.le_refl _) _).trans (hb1.mono (by simp))⟩
set_option maxHeartbeats 1000000 in
theorem pcut_any (l : List UInt8) (w : World) : Calls Tryd.prog 10 #[.string (str l)] w fun e w' => CutR l w e w' := by
  have HM : Hid (∀ w, Calls Tryd.prog 8 #[.string (str l)] w fun e w' => MarkR l w e w') := Lib.hid fun w => pmark_any l w
  unfold MarkR at HM
  have hml := mrk_len (b := l)
  have hsl : ∀ w0 : World, (Instr.slice 9 (.string (str l)) (some (.int .i64 (mrkN l : Int))) none none).run Tryd.prog w0 = .ok (.string (str (cut l))) w0 := fun w0 =>
    slice_from (str l) (mrkN l) (by rw [str_size]; exact hml) (str_list l) rfl w0
  have hv : ∃ (e : Int) (b : Bool), markV (mrk l) = .tuple #[.int .i8 e, .int .i64 (mrkN l : Int), .bool b] := by
    unfold mrkN
    cases mrk l with
    | none => exact ⟨0, false, rfl⟩
    | some m => exact ⟨m.1, true, rfl⟩
  obtain ⟨e0, b0, hv⟩ := hv
  rw [hv] at HM
  unfold CutR
  obtain ⟨X, hX⟩ : ∃ X, str (cut l) = X := ⟨_, rfl⟩
  rw [hX] at hsl ⊢
  obtain ⟨n, hn⟩ : ∃ n, mrkN l = n := ⟨_, rfl⟩
  rw [hn] at HM hsl
  obtain ⟨s, hs'⟩ : ∃ s, str l = s := ⟨_, rfl⟩
  rw [hs'] at HM hsl ⊢
  clear hv hn hs' hml hX
  go_enter Tryd.func10, Tryd.ntmps10
  go_wp2_with (go_at_call 8; refine (HM.out _).mono ?_; rintro _ w9 ⟨rfl, hb9⟩; clear HM)
  go_ret
  exact ⟨rfl, hb9⟩
end Go.Proofs.YtdkfbikpadehdaaDoor.Dec
