/- The contracts of begins, Mark, Shape, Cut. -/
import Derived.Test.YtdkfbikpadehdaaDoorEPD
namespace Go.Proofs.YtdkfbikpadehdaaDoor.Dec
open Go.RowKit
set_option linter.unusedVariables false
set_option linter.unusedSimpArgs false
open Lab (RetS ret_str str str_size str_list str_eta str_inj u8v info5 info_parts)
/-- A round of begins: what the call of take has left. -/
theorem front_step {w w' : World} {a v : Array Value} {T T' : TypeId} (h : Fr ((w.alloc (.cells a T)).alloc (.cells v T')).heap.size (w.heap.size + 1) ((w.alloc (.cells a T)).alloc (.cells v T')) w') : Below w.heap.size w w' ∧ Blk w' w.heap.size a T := by
  refine ⟨(((Below.refl _ w).alloc (Nat.le_refl _) _).alloc (by simp) _).trans (h.below (by simp; omega) (by omega)), ?_⟩
  unfold Blk
  rw [h.block w.heap.size (by simp; omega) (by omega)]
  exact Blk.alloc (Blk.new w a T) _
theorem rst_new (w : World) (a : Array Value) (T : TypeId) (l : List UInt8) : Rst ((w.alloc (.cells a T)).alloc (.cells #[.string (str l)] 49)) (w.heap.size + 1) l := Blk.new' _ _ _ (by simp)
def bgM (l : List UInt8) : Value := markV (mrk l)
def bgS (l : List UInt8) : Value := match shp l with
  | none => .tuple #[.int .i8 0, .int .i64 0, .bool false]
  | some e => .tuple #[.int .i8 (e : Int), .int .i64 4, .bool true]
def markC : Array Value := #[.int .i8 0, .string ⟨#[239, 187, 191]⟩, .int .i8 1, .string ⟨#[255, 254]⟩, .int .i8 2, .string ⟨#[254, 255]⟩]
set_option maxRecDepth 100000 in
set_option maxHeartbeats 4000000 in
theorem begins_mark (l : List UInt8) (Q : Nat) (w : World) (hq : Blk w Q markC 42) :
    Calls Tryd.prog 19 #[.string (str l), .slice (some ⟨Q, 0, none⟩) 3 3] w fun e w' => e = .returned (bgM l) ∧ Below w.heap.size w w' := by
  have HC : Hid (∀ {w'}, Below w.heap.size w w' → ∀ i, w'.cell? ⟨Q, i, none⟩ = markC[i]?) := Lib.hid fun hb i => Blk.cell (Blk.below hq hb) i
  have HV : Hid (∃ r, bgM l = r) := Lib.hid ⟨_, rfl⟩
  have c0 : w.cell? ⟨Q, 0, none⟩ = some (.int .i8 0) := HC.out (Below.refl _ _) 0
  have c1 : w.cell? ⟨Q, 1, none⟩ = some (.string ⟨#[239, 187, 191]⟩) := HC.out (Below.refl _ _) 1
  have c2 : w.cell? ⟨Q, 2, none⟩ = some (.int .i8 1) := HC.out (Below.refl _ _) 2
  have c3 : w.cell? ⟨Q, 3, none⟩ = some (.string ⟨#[255, 254]⟩) := HC.out (Below.refl _ _) 3
  have c4 : w.cell? ⟨Q, 4, none⟩ = some (.int .i8 2) := HC.out (Below.refl _ _) 4
  have c5 : w.cell? ⟨Q, 5, none⟩ = some (.string ⟨#[254, 255]⟩) := HC.out (Below.refl _ _) 5
  clear hq
  by_cases h0 : ([239, 187, 191] : List UInt8).isPrefixOf l = true
  · have HT0 : Hid (∀ B, ∀ w, Rst w B l → Calls Tryd.prog 24 #[.pointer (some ⟨B, 0, none⟩), .string ⟨#[239, 187, 191]⟩] w fun e w' => e = .returned (.bool true) ∧ Rst w' B (l.drop 3) ∧ Fr w.heap.size B w w') := Lib.hid fun B => take_yes (p := [239, 187, 191]) h0
    replace HV : Hid (bgM l = .tuple #[.int .i8 0, .int .i64 3, .bool true]) := Lib.hid (by simp [bgM, markV, mrk, h0])
    clear h0
    obtain ⟨s, hs'⟩ : ∃ s, str l = s := ⟨_, rfl⟩
    have HRN : Hid (∀ (w : World) (a : Array Value) (T : TypeId), Rst ((w.alloc (.cells a T)).alloc (.cells #[.string s] 49)) (w.heap.size + 1) l) := Lib.hid (by rw [← hs']; intro w a T; exact rst_new w a T l)
    rw [hs']
    clear hs'
    go_enter Tryd.func19, Tryd.ntmps19
    go_wp2_with fail
    refine wp_loop_rounds 1 ?_
    rw [rounds_succ]
    go_wp2_with (go_at_call 24; refine (HT0.out _ _ (HRN.out _ _ _)).mono ?_; rintro _ w1 ⟨rfl, -, hf1⟩; clear HT0; obtain ⟨hb1, hk1⟩ := front_step hf1; clear hf1; have a0 : w1.cell? ⟨w.heap.size, 0, none⟩ = some (.int .i8 0) := hk1.cell 0; have a1 : w1.cell? ⟨w.heap.size, 1, none⟩ = some (.string ⟨#[239, 187, 191]⟩) := hk1.cell 1)
    go_quiet (fail)
    go_wp2_with fail
    try rw [Exit.noGoto_ret]
    go_ret3
    exact ⟨by rw [HV.out]; rfl, below_draws hb1 _⟩
  have h0 : ([239, 187, 191] : List UInt8).isPrefixOf l = false := (Bool.not_eq_true _).mp h0
  have HT0 : Hid (∀ B, ∀ w, Rst w B l → Calls Tryd.prog 24 #[.pointer (some ⟨B, 0, none⟩), .string ⟨#[239, 187, 191]⟩] w fun e w' => e = .returned (.bool false) ∧ Rst w' B (l) ∧ Fr w.heap.size B w w') := Lib.hid fun B => take_no (p := [239, 187, 191]) h0
  by_cases h1 : ([255, 254] : List UInt8).isPrefixOf l = true
  · have HT1 : Hid (∀ B, ∀ w, Rst w B l → Calls Tryd.prog 24 #[.pointer (some ⟨B, 0, none⟩), .string ⟨#[255, 254]⟩] w fun e w' => e = .returned (.bool true) ∧ Rst w' B (l.drop 2) ∧ Fr w.heap.size B w w') := Lib.hid fun B => take_yes (p := [255, 254]) h1
    replace HV : Hid (bgM l = .tuple #[.int .i8 1, .int .i64 2, .bool true]) := Lib.hid (by simp [bgM, markV, mrk, h0, h1])
    clear h0 h1
    obtain ⟨s, hs'⟩ : ∃ s, str l = s := ⟨_, rfl⟩
    have HRN : Hid (∀ (w : World) (a : Array Value) (T : TypeId), Rst ((w.alloc (.cells a T)).alloc (.cells #[.string s] 49)) (w.heap.size + 1) l) := Lib.hid (by rw [← hs']; intro w a T; exact rst_new w a T l)
    rw [hs']
    clear hs'
    go_enter Tryd.func19, Tryd.ntmps19
    go_wp2_with fail
    refine wp_loop_rounds 2 ?_
    rw [rounds_succ]
    go_wp2_with (go_at_call 24; refine (HT0.out _ _ (HRN.out _ _ _)).mono ?_; rintro _ w1 ⟨rfl, -, hf1⟩; clear HT0; obtain ⟨hb1, hk1⟩ := front_step hf1; clear hf1; have HB1 := Lib.hid (hb1); clear hk1; have g2 : w1.cell? ⟨Q, 2, none⟩ = some (.int .i8 1) := HC.out HB1.out 2; have g3 : w1.cell? ⟨Q, 3, none⟩ = some (.string ⟨#[255, 254]⟩) := HC.out HB1.out 3)
    rw [rounds_succ]
    go_wp2_with (go_at_call 24; refine (HT1.out _ _ (HRN.out _ _ _)).mono ?_; rintro _ w2 ⟨rfl, -, hf2⟩; clear HT1; obtain ⟨hb2, hk2⟩ := front_step hf2; clear hf2; have a0 : w2.cell? ⟨w1.heap.size, 0, none⟩ = some (.int .i8 1) := hk2.cell 0; have a1 : w2.cell? ⟨w1.heap.size, 1, none⟩ = some (.string ⟨#[255, 254]⟩) := hk2.cell 1)
    go_quiet (fail)
    go_wp2_with fail
    try rw [Exit.noGoto_ret]
    go_ret3
    exact ⟨by rw [HV.out]; rfl, below_draws (below_call HB1.out hb2) _⟩
  have h1 : ([255, 254] : List UInt8).isPrefixOf l = false := (Bool.not_eq_true _).mp h1
  have HT1 : Hid (∀ B, ∀ w, Rst w B l → Calls Tryd.prog 24 #[.pointer (some ⟨B, 0, none⟩), .string ⟨#[255, 254]⟩] w fun e w' => e = .returned (.bool false) ∧ Rst w' B (l) ∧ Fr w.heap.size B w w') := Lib.hid fun B => take_no (p := [255, 254]) h1
  by_cases h2 : ([254, 255] : List UInt8).isPrefixOf l = true
  · have HT2 : Hid (∀ B, ∀ w, Rst w B l → Calls Tryd.prog 24 #[.pointer (some ⟨B, 0, none⟩), .string ⟨#[254, 255]⟩] w fun e w' => e = .returned (.bool true) ∧ Rst w' B (l.drop 2) ∧ Fr w.heap.size B w w') := Lib.hid fun B => take_yes (p := [254, 255]) h2
    replace HV : Hid (bgM l = .tuple #[.int .i8 2, .int .i64 2, .bool true]) := Lib.hid (by simp [bgM, markV, mrk, h0, h1, h2])
    clear h0 h1 h2
    obtain ⟨s, hs'⟩ : ∃ s, str l = s := ⟨_, rfl⟩
    have HRN : Hid (∀ (w : World) (a : Array Value) (T : TypeId), Rst ((w.alloc (.cells a T)).alloc (.cells #[.string s] 49)) (w.heap.size + 1) l) := Lib.hid (by rw [← hs']; intro w a T; exact rst_new w a T l)
    rw [hs']
    clear hs'
    go_enter Tryd.func19, Tryd.ntmps19
    go_wp2_with fail
    refine wp_loop_rounds 3 ?_
    rw [rounds_succ]
    go_wp2_with (go_at_call 24; refine (HT0.out _ _ (HRN.out _ _ _)).mono ?_; rintro _ w1 ⟨rfl, -, hf1⟩; clear HT0; obtain ⟨hb1, hk1⟩ := front_step hf1; clear hf1; have HB1 := Lib.hid (hb1); clear hk1; have g2 : w1.cell? ⟨Q, 2, none⟩ = some (.int .i8 1) := HC.out HB1.out 2; have g3 : w1.cell? ⟨Q, 3, none⟩ = some (.string ⟨#[255, 254]⟩) := HC.out HB1.out 3)
    rw [rounds_succ]
    go_wp2_with (go_at_call 24; refine (HT1.out _ _ (HRN.out _ _ _)).mono ?_; rintro _ w2 ⟨rfl, -, hf2⟩; clear HT1; obtain ⟨hb2, hk2⟩ := front_step hf2; clear hf2; have HB2 := Lib.hid (below_call HB1.out hb2); clear hk2; have g4 : w2.cell? ⟨Q, 4, none⟩ = some (.int .i8 2) := HC.out HB2.out 4; have g5 : w2.cell? ⟨Q, 5, none⟩ = some (.string ⟨#[254, 255]⟩) := HC.out HB2.out 5)
    rw [rounds_succ]
    go_wp2_with (go_at_call 24; refine (HT2.out _ _ (HRN.out _ _ _)).mono ?_; rintro _ w3 ⟨rfl, -, hf3⟩; clear HT2; obtain ⟨hb3, hk3⟩ := front_step hf3; clear hf3; have a0 : w3.cell? ⟨w2.heap.size, 0, none⟩ = some (.int .i8 2) := hk3.cell 0; have a1 : w3.cell? ⟨w2.heap.size, 1, none⟩ = some (.string ⟨#[254, 255]⟩) := hk3.cell 1)
    go_quiet (fail)
    go_wp2_with fail
    try rw [Exit.noGoto_ret]
    go_ret3
    exact ⟨by rw [HV.out]; rfl, below_draws (below_call HB2.out hb3) _⟩
  have h2 : ([254, 255] : List UInt8).isPrefixOf l = false := (Bool.not_eq_true _).mp h2
  have HT2 : Hid (∀ B, ∀ w, Rst w B l → Calls Tryd.prog 24 #[.pointer (some ⟨B, 0, none⟩), .string ⟨#[254, 255]⟩] w fun e w' => e = .returned (.bool false) ∧ Rst w' B (l) ∧ Fr w.heap.size B w w') := Lib.hid fun B => take_no (p := [254, 255]) h2
  replace HV : Hid (bgM l = .tuple #[.int .i8 0, .int .i64 0, .bool false]) := Lib.hid (by simp [bgM, markV, mrk, h0, h1, h2])
  clear h0 h1 h2
  obtain ⟨s, hs'⟩ : ∃ s, str l = s := ⟨_, rfl⟩
  have HRN : Hid (∀ (w : World) (a : Array Value) (T : TypeId), Rst ((w.alloc (.cells a T)).alloc (.cells #[.string s] 49)) (w.heap.size + 1) l) := Lib.hid (by rw [← hs']; intro w a T; exact rst_new w a T l)
  rw [hs']
  clear hs'
  go_enter Tryd.func19, Tryd.ntmps19
  go_wp2_with fail
  refine wp_loop_rounds 4 ?_
  rw [rounds_succ]
  go_wp2_with (go_at_call 24; refine (HT0.out _ _ (HRN.out _ _ _)).mono ?_; rintro _ w1 ⟨rfl, -, hf1⟩; clear HT0; obtain ⟨hb1, hk1⟩ := front_step hf1; clear hf1; have HB1 := Lib.hid (hb1); clear hk1; have g2 : w1.cell? ⟨Q, 2, none⟩ = some (.int .i8 1) := HC.out HB1.out 2; have g3 : w1.cell? ⟨Q, 3, none⟩ = some (.string ⟨#[255, 254]⟩) := HC.out HB1.out 3)
  rw [rounds_succ]
  go_wp2_with (go_at_call 24; refine (HT1.out _ _ (HRN.out _ _ _)).mono ?_; rintro _ w2 ⟨rfl, -, hf2⟩; clear HT1; obtain ⟨hb2, hk2⟩ := front_step hf2; clear hf2; have HB2 := Lib.hid (below_call HB1.out hb2); clear hk2; have g4 : w2.cell? ⟨Q, 4, none⟩ = some (.int .i8 2) := HC.out HB2.out 4; have g5 : w2.cell? ⟨Q, 5, none⟩ = some (.string ⟨#[254, 255]⟩) := HC.out HB2.out 5)
  rw [rounds_succ]
  go_wp2_with (go_at_call 24; refine (HT2.out _ _ (HRN.out _ _ _)).mono ?_; rintro _ w3 ⟨rfl, -, hf3⟩; clear HT2; obtain ⟨hb3, hk3⟩ := front_step hf3; clear hf3; have HB3 := Lib.hid (below_call HB2.out hb3); clear hk3)
  rw [rounds_succ]
  go_wp2_with fail
  go_ret3
  exact ⟨by rw [HV.out]; rfl, HB3.out⟩
def shapeC : Array Value := #[.int .i8 1, .string ⟨#[60, 0, 63, 0]⟩, .int .i8 2, .string ⟨#[0, 60, 0, 63]⟩]
set_option maxRecDepth 100000 in
set_option maxHeartbeats 4000000 in
theorem begins_shape (l : List UInt8) (Q : Nat) (w : World) (hq : Blk w Q shapeC 42) :
    Calls Tryd.prog 19 #[.string (str l), .slice (some ⟨Q, 0, none⟩) 2 2] w fun e w' => e = .returned (bgS l) ∧ Below w.heap.size w w' := by
  have HC : Hid (∀ {w'}, Below w.heap.size w w' → ∀ i, w'.cell? ⟨Q, i, none⟩ = shapeC[i]?) := Lib.hid fun hb i => Blk.cell (Blk.below hq hb) i
  have HV : Hid (∃ r, bgS l = r) := Lib.hid ⟨_, rfl⟩
  have c0 : w.cell? ⟨Q, 0, none⟩ = some (.int .i8 1) := HC.out (Below.refl _ _) 0
  have c1 : w.cell? ⟨Q, 1, none⟩ = some (.string ⟨#[60, 0, 63, 0]⟩) := HC.out (Below.refl _ _) 1
  have c2 : w.cell? ⟨Q, 2, none⟩ = some (.int .i8 2) := HC.out (Below.refl _ _) 2
  have c3 : w.cell? ⟨Q, 3, none⟩ = some (.string ⟨#[0, 60, 0, 63]⟩) := HC.out (Below.refl _ _) 3
  clear hq
  by_cases h0 : ([60, 0, 63, 0] : List UInt8).isPrefixOf l = true
  · have HT0 : Hid (∀ B, ∀ w, Rst w B l → Calls Tryd.prog 24 #[.pointer (some ⟨B, 0, none⟩), .string ⟨#[60, 0, 63, 0]⟩] w fun e w' => e = .returned (.bool true) ∧ Rst w' B (l.drop 4) ∧ Fr w.heap.size B w w') := Lib.hid fun B => take_yes (p := [60, 0, 63, 0]) h0
    replace HV : Hid (bgS l = .tuple #[.int .i8 1, .int .i64 4, .bool true]) := Lib.hid (by simp [bgS, shp, h0])
    clear h0
    obtain ⟨s, hs'⟩ : ∃ s, str l = s := ⟨_, rfl⟩
    have HRN : Hid (∀ (w : World) (a : Array Value) (T : TypeId), Rst ((w.alloc (.cells a T)).alloc (.cells #[.string s] 49)) (w.heap.size + 1) l) := Lib.hid (by rw [← hs']; intro w a T; exact rst_new w a T l)
    rw [hs']
    clear hs'
    go_enter Tryd.func19, Tryd.ntmps19
    go_wp2_with fail
    refine wp_loop_rounds 1 ?_
    rw [rounds_succ]
    go_wp2_with (go_at_call 24; refine (HT0.out _ _ (HRN.out _ _ _)).mono ?_; rintro _ w1 ⟨rfl, -, hf1⟩; clear HT0; obtain ⟨hb1, hk1⟩ := front_step hf1; clear hf1; have a0 : w1.cell? ⟨w.heap.size, 0, none⟩ = some (.int .i8 1) := hk1.cell 0; have a1 : w1.cell? ⟨w.heap.size, 1, none⟩ = some (.string ⟨#[60, 0, 63, 0]⟩) := hk1.cell 1)
    go_quiet (fail)
    go_wp2_with fail
    try rw [Exit.noGoto_ret]
    go_ret3
    exact ⟨by rw [HV.out]; rfl, below_draws hb1 _⟩
  have h0 : ([60, 0, 63, 0] : List UInt8).isPrefixOf l = false := (Bool.not_eq_true _).mp h0
  have HT0 : Hid (∀ B, ∀ w, Rst w B l → Calls Tryd.prog 24 #[.pointer (some ⟨B, 0, none⟩), .string ⟨#[60, 0, 63, 0]⟩] w fun e w' => e = .returned (.bool false) ∧ Rst w' B (l) ∧ Fr w.heap.size B w w') := Lib.hid fun B => take_no (p := [60, 0, 63, 0]) h0
  by_cases h1 : ([0, 60, 0, 63] : List UInt8).isPrefixOf l = true
  · have HT1 : Hid (∀ B, ∀ w, Rst w B l → Calls Tryd.prog 24 #[.pointer (some ⟨B, 0, none⟩), .string ⟨#[0, 60, 0, 63]⟩] w fun e w' => e = .returned (.bool true) ∧ Rst w' B (l.drop 4) ∧ Fr w.heap.size B w w') := Lib.hid fun B => take_yes (p := [0, 60, 0, 63]) h1
    replace HV : Hid (bgS l = .tuple #[.int .i8 2, .int .i64 4, .bool true]) := Lib.hid (by simp [bgS, shp, h0, h1])
    clear h0 h1
    obtain ⟨s, hs'⟩ : ∃ s, str l = s := ⟨_, rfl⟩
    have HRN : Hid (∀ (w : World) (a : Array Value) (T : TypeId), Rst ((w.alloc (.cells a T)).alloc (.cells #[.string s] 49)) (w.heap.size + 1) l) := Lib.hid (by rw [← hs']; intro w a T; exact rst_new w a T l)
    rw [hs']
    clear hs'
    go_enter Tryd.func19, Tryd.ntmps19
    go_wp2_with fail
    refine wp_loop_rounds 2 ?_
    rw [rounds_succ]
    go_wp2_with (go_at_call 24; refine (HT0.out _ _ (HRN.out _ _ _)).mono ?_; rintro _ w1 ⟨rfl, -, hf1⟩; clear HT0; obtain ⟨hb1, hk1⟩ := front_step hf1; clear hf1; have HB1 := Lib.hid (hb1); clear hk1; have g2 : w1.cell? ⟨Q, 2, none⟩ = some (.int .i8 2) := HC.out HB1.out 2; have g3 : w1.cell? ⟨Q, 3, none⟩ = some (.string ⟨#[0, 60, 0, 63]⟩) := HC.out HB1.out 3)
    rw [rounds_succ]
    go_wp2_with (go_at_call 24; refine (HT1.out _ _ (HRN.out _ _ _)).mono ?_; rintro _ w2 ⟨rfl, -, hf2⟩; clear HT1; obtain ⟨hb2, hk2⟩ := front_step hf2; clear hf2; have a0 : w2.cell? ⟨w1.heap.size, 0, none⟩ = some (.int .i8 2) := hk2.cell 0; have a1 : w2.cell? ⟨w1.heap.size, 1, none⟩ = some (.string ⟨#[0, 60, 0, 63]⟩) := hk2.cell 1)
    go_quiet (fail)
    go_wp2_with fail
    try rw [Exit.noGoto_ret]
    go_ret3
    exact ⟨by rw [HV.out]; rfl, below_draws (below_call HB1.out hb2) _⟩
  have h1 : ([0, 60, 0, 63] : List UInt8).isPrefixOf l = false := (Bool.not_eq_true _).mp h1
  have HT1 : Hid (∀ B, ∀ w, Rst w B l → Calls Tryd.prog 24 #[.pointer (some ⟨B, 0, none⟩), .string ⟨#[0, 60, 0, 63]⟩] w fun e w' => e = .returned (.bool false) ∧ Rst w' B (l) ∧ Fr w.heap.size B w w') := Lib.hid fun B => take_no (p := [0, 60, 0, 63]) h1
  replace HV : Hid (bgS l = .tuple #[.int .i8 0, .int .i64 0, .bool false]) := Lib.hid (by simp [bgS, shp, h0, h1])
  clear h0 h1
  obtain ⟨s, hs'⟩ : ∃ s, str l = s := ⟨_, rfl⟩
  have HRN : Hid (∀ (w : World) (a : Array Value) (T : TypeId), Rst ((w.alloc (.cells a T)).alloc (.cells #[.string s] 49)) (w.heap.size + 1) l) := Lib.hid (by rw [← hs']; intro w a T; exact rst_new w a T l)
  rw [hs']
  clear hs'
  go_enter Tryd.func19, Tryd.ntmps19
  go_wp2_with fail
  refine wp_loop_rounds 3 ?_
  rw [rounds_succ]
  go_wp2_with (go_at_call 24; refine (HT0.out _ _ (HRN.out _ _ _)).mono ?_; rintro _ w1 ⟨rfl, -, hf1⟩; clear HT0; obtain ⟨hb1, hk1⟩ := front_step hf1; clear hf1; have HB1 := Lib.hid (hb1); clear hk1; have g2 : w1.cell? ⟨Q, 2, none⟩ = some (.int .i8 2) := HC.out HB1.out 2; have g3 : w1.cell? ⟨Q, 3, none⟩ = some (.string ⟨#[0, 60, 0, 63]⟩) := HC.out HB1.out 3)
  rw [rounds_succ]
  go_wp2_with (go_at_call 24; refine (HT1.out _ _ (HRN.out _ _ _)).mono ?_; rintro _ w2 ⟨rfl, -, hf2⟩; clear HT1; obtain ⟨hb2, hk2⟩ := front_step hf2; clear hf2; have HB2 := Lib.hid (below_call HB1.out hb2); clear hk2)
  rw [rounds_succ]
  go_wp2_with fail
  go_ret3
  exact ⟨by rw [HV.out]; rfl, HB2.out⟩
end Go.Proofs.YtdkfbikpadehdaaDoor.Dec
