/- Joined: SF. -/
import Derived.BigQuiet
import Derived.Deep.AppendLies
import Derived.Deep.DeepCutAuto
import Derived.Deep.LoopGhost
import Derived.Deep.QuietTactic
import Derived.Deep.RegionHeld3
import Derived.Deep.WholeRow
import Derived.Laws.AppendOwn
import Derived.Laws.BytesArg
import Derived.Laws.DeepStrings4
import Derived.Laws.IdiomStrings
import Derived.Lib.AppendStr
import Derived.Lib.Hide
import Derived.LoopN
import Derived.Maps.AppendAt
import Derived.Maps.Own
import Derived.Maps.OwnSet
import Derived.OpenShut
import Derived.Outline
import Derived.ProofKit
import Derived.StillTailTactics
import Derived.Test.YtppabkllconkjaaGreatDoorRows
import Derived.WalkKit
import Derived.WalkMore
import Derived.Test.YtppabkllconkjaaGreatDoorK01
import Derived.Test.YtppabkllconkjaaGreatDoorK03
/- The contracts of scalars and of Scalar. -/
namespace Go.Proofs.YtppabkllconkjaaGreatDoor.U
open Go.RowKit Go.Maps
set_option linter.unusedVariables false
set_option linter.unusedSimpArgs false
set_option maxRecDepth 100000
/-- A map literal's entry at the operation. -/
theorem wpList_insert_own {H : Type} {P : Program} (w : World) {ops : Array Oper} {rest : List Oper} {o : Oper} {a : Act} {Q : Exit → Act → World → Prop}
    (hg : o.guard = none) (m x v : Operand) (t : TypeId) (hop : o.op = Op.insert t m x v)
    (k e : TypeId) (K : Keyed P k) (ht : P.underlying t = some (.map k e)) (R : Value → Option (DataW H × List MemPlace)) (b n : Nat) (D : DataW H)
    (hm : a.eval m = .map (some b)) (hown : w.ownsMap P k R b n D) (hn : n < maxLen) (key val : Value) (kl : Lit) (hx : a.eval x = key) (hv : a.eval v = val) (hkey : keyOf P k key = some kl)
    (d : DataW H) (ps : List MemPlace) (hval : R val = some (d, ps))
    (hK : ∀ w', w'.ownsMap P k R b (n + 1) (D.put kl d) → w.grownBy w' (some b) → wpList P ops Q rest (a.put o.dst undef) w') :
    wpList P ops Q (o :: rest) a w := by
  refine wpList_plain hg fun K' hK' => ?_
  obtain ⟨w', hrun, r1, r2⟩ := hown.update K ht hn hkey hval
  unfold Oper.wp
  simp [execOp, hop, hm, hx, hv, hrun, Result.andThen]
  exact hK' _ _ (hK w' r1 r2)
theorem lawI8 : Keyed Tryz.prog 23 := int_keyed (q := .i8) Tryz.underlying23
/-- A function value among a map's elements reads as itself. -/
def fnR (v : Value) : Option (DataW Value × List MemPlace) := some (.held v, [])
/-- What tells a byte's scalar. -/
def fval (e : Int) : Value := if e = 3 then .func (.func 163) #[blkV] #[] else if e = 4 then .func (.func 164) #[runV r5] #[] else if e = 5 then .func (.func 164) #[runV r15] #[] else .nilFunc
theorem build_blk (w : World) : (Instr.build 178 #[(0, .int .i64 8364), (1, .int .i64 129), (2, .int .i64 8218), (3, .int .i64 402), (4, .int .i64 8222), (5, .int .i64 8230), (6, .int .i64 8224), (7, .int .i64 8225), (8, .int .i64 710), (9, .int .i64 8240), (10, .int .i64 352), (11, .int .i64 8249), (12, .int .i64 338), (13, .int .i64 141), (14, .int .i64 381), (15, .int .i64 143), (16, .int .i64 144), (17, .int .i64 8216), (18, .int .i64 8217), (19, .int .i64 8220), (20, .int .i64 8221), (21, .int .i64 8226), (22, .int .i64 8211), (23, .int .i64 8212), (24, .int .i64 732), (25, .int .i64 8482), (26, .int .i64 353), (27, .int .i64 8250), (28, .int .i64 339), (29, .int .i64 157), (30, .int .i64 382), (31, .int .i64 376)]).run Tryz.prog w = .ok (.agg ints32) w := by kernel_rfl
theorem build_runs5 (w : World) : (Instr.build 182 #[(0, .agg #[.int .i64 161, .int .i64 1025, .int .i64 12]), (1, .agg #[.int .i64 174, .int .i64 1038, .int .i64 2]), (2, .agg #[.int .i64 176, .int .i64 1040, .int .i64 64]), (3, .agg #[.int .i64 240, .int .i64 8470, .int .i64 1]), (4, .agg #[.int .i64 241, .int .i64 1105, .int .i64 12]), (5, .agg #[.int .i64 253, .int .i64 167, .int .i64 1]), (6, .agg #[.int .i64 254, .int .i64 1118, .int .i64 2])]).run Tryz.prog w = .ok (.agg (cells7 r5)) w := by kernel_rfl
theorem build_runs15 (w : World) : (Instr.build 182 #[(0, .agg #[.int .i64 164, .int .i64 8364, .int .i64 1]), (1, .agg #[.int .i64 166, .int .i64 352, .int .i64 1]), (2, .agg #[.int .i64 168, .int .i64 353, .int .i64 1]), (3, .agg #[.int .i64 180, .int .i64 381, .int .i64 1]), (4, .agg #[.int .i64 184, .int .i64 382, .int .i64 1]), (5, .agg #[.int .i64 188, .int .i64 338, .int .i64 2]), (6, .agg #[.int .i64 190, .int .i64 376, .int .i64 1])]).run Tryz.prog w = .ok (.agg (cells7 r15)) w := by kernel_rfl
theorem info_blk : (Tryz.prog.info? 178).map (fun i => (i.zero, i.size)) = some (some (.agg (Array.replicate 32 (.int .i64 0))), 32) := by kernel_rfl
theorem info_runs : (Tryz.prog.info? 182).map (fun i => (i.zero, i.size)) = some (some (.agg (Array.replicate 21 (.int .i64 0))), 21) := by kernel_rfl
/-- A variable of a type of rows: room for it. -/
theorem wpList_alloc_agg {P : Program} (w : World) {ops : Array Oper} {rest : List Oper} {o : Oper} {a : Act} {Q : Exit → Act → World → Prop}
    (hg : o.guard = none) (T : TypeId) (hop : o.op = Op.alloc T) (z : Array Value) (n : Nat) (hi : (P.info? T).map (fun i => (i.zero, i.size)) = some (some (.agg z), n))
    (hK : wpList P ops Q rest (a.put o.dst (.pointer (some ⟨w.heap.size, 0, none⟩))) (w.alloc (.cells z T))) : wpList P ops Q (o :: rest) a w := by
  refine wpList_plain hg fun K' hK' => ?_
  have hz := (zero_of_info hi).1 w
  have hrun : (Instr.alloc T true (.tuple #[])).run P w = .ok (.pointer (some ⟨w.heap.size, 0, none⟩)) (w.alloc (.cells z T)) := by
    simp [Instr.alloc, hz, newVar, newRow, run_newObj_alloc, Value.cells, Result.andThen]
  unfold Oper.wp
  simp [execOp, hop, hrun, Result.andThen]
  exact hK' _ _ hK
/-- .. its value laid there. -/
theorem wpList_store_agg {P : Program} (w : World) {ops : Array Oper} {rest : List Oper} {o : Oper} {a : Act} {Q : Exit → Act → World → Prop}
    (hg : o.guard = none) (T : TypeId) (p x : Operand) (hop : o.op = Op.store T p x) (z c : Array Value) (n : Nat) (hi : (P.info? T).map (fun i => (i.zero, i.size)) = some (some (.agg z), n)) (hzn : z.size = n) (hc : c.size = n) (h1 : c.all (·.oneCell') = true)
    (hp : a.eval p = .pointer (some ⟨w.heap.size, 0, none⟩)) (hx : a.eval x = .agg c)
    (hK : ∀ w1, Blk w1 w.heap.size c T → Below w.heap.size w w1 → wpList P ops Q rest (a.put o.dst undef) w1) : wpList P ops Q (o :: rest) a (w.alloc (.cells z T)) := by
  refine wpList_plain hg fun K' hK' => ?_
  have hrun := run_storeAt_new (P := P) w T z c (by rw [hc]; exact (zero_of_info hi).2) (by rw [hzn, hc]) h1
  unfold Oper.wp
  simp only [execOp, hop, hp, hx, hrun, Sem.run_bind, Sem.run_pure, Result.andThen_ok]
  exact hK' _ _ (hK _ (Blk.new _ _ _) ((Below.refl _ _).alloc (Nat.le_refl _) _))
/-- .. and read as a whole. -/
theorem wpList_load_blk {P : Program} (w : World) {ops : Array Oper} {rest : List Oper} {o : Oper} {a : Act} {Q : Exit → Act → World → Prop}
    (hg : o.guard = none) (T : TypeId) (p : Operand) (hop : o.op = Op.load T p) (z c : Array Value) (n m : Nat) (e : TypeId) (hu : P.underlying T = some (.array m e)) (hi : (P.info? T).map (fun i => (i.zero, i.size)) = some (some (.agg z), n)) (hc : c.size = n) (b : Nat)
    (hp : a.eval p = .pointer (some ⟨b, 0, none⟩)) (hb : Blk w b c T)
    (hK : wpList P ops Q rest (a.put o.dst (.agg c)) w) : wpList P ops Q (o :: rest) a w := by
  refine wpList_plain hg fun K' hK' => ?_
  have hrun : (Instr.loadAt T (.pointer (some ⟨b, 0, none⟩))).run P w = .ok (.agg c) w := by
    simp only [Instr.loadAt, Instr.sureAddr, Sem.run_bind, Sem.run_pure, Result.andThen]
    exact run_loadVar_row w b T T c (0, 0) _ hb hu rfl (by rw [hc]; exact (zero_of_info hi).2)
  unfold Oper.wp
  simp only [execOp, hop, hp, hrun, Sem.run_bind, Sem.run_pure, Result.andThen_ok]
  exact hK' _ _ hK
/-- A literal of rows. -/
theorem wpList_build_to {P : Program} (w : World) {ops : Array Oper} {rest : List Oper} {o : Oper} {a : Act} {Q : Exit → Act → World → Prop}
    (hg : o.guard = none) (T : TypeId) (parts : Array (Nat × Operand)) (hop : o.op = Op.build T parts) (vals : Array (Nat × Value)) (v : Value) (hrun : ∀ w, (Instr.build T vals).run P w = .ok v w) (hv : parts.map (fun x => (x.1, a.eval x.2)) = vals)
    (hK : wpList P ops Q rest (a.put o.dst v) w) : wpList P ops Q (o :: rest) a w := by
  refine wpList_plain hg fun K' hK' => ?_
  have h := hrun w
  rw [← hv] at h
  unfold Oper.wp
  simp only [execOp, hop, h, Sem.run_bind, Sem.run_pure, Result.andThen_ok]
  exact hK' _ _ hK
theorem size_ints32 : ints32.size = 32 := by decide
theorem size_r5 : (cells7 r5).size = 21 := by decide
theorem size_r15 : (cells7 r15).size = 21 := by decide
theorem one_ints32 : ints32.all (·.oneCell') = true := by simp [ints32, Value.oneCell']
theorem one_r5 : (cells7 r5).all (·.oneCell') = true := by simp [cells7, r5, Value.oneCell']
theorem one_r15 : (cells7 r15).all (·.oneCell') = true := by simp [cells7, r15, Value.oneCell']
theorem Blk.grown {w w' : World} {b g : Nat} {xs : Array Value} {T : TypeId} (h : Blk w b xs T) (hg : w.grownBy w' (some g)) (hne : b ≠ g) : Blk w' b xs T :=
  (hg.block b h.lt (by simpa using hne)).trans h
set_option maxHeartbeats 2000000 in
theorem scalars_own (w : World) : Calls Tryz.prog 133 #[] w fun e w' => ∃ g, e = .returned (.map (some g)) ∧ w.heap.size ≤ g ∧
    w'.ownsMap Tryz.prog 23 fnR g 3 ((((DataW.map []).put (.int .i8 3) (.held (fval 3))).put (.int .i8 4) (.held (fval 4))).put (.int .i8 5) (.held (fval 5))) ∧ Below w.heap.size w w' := by
  have hmm := @run_makeMap Tryz.prog
  have H3 : Hid (fval 3 = .func (.func 163) #[.agg ints32] #[]) := Lib.hid rfl
  have H4 : Hid (fval 4 = .func (.func 164) #[.agg (cells7 r5)] #[]) := Lib.hid rfl
  have H5 : Hid (fval 5 = .func (.func 164) #[.agg (cells7 r15)] #[]) := Lib.hid rfl
  have hb1 := build_blk
  have hb2 := build_runs5
  have hb3 := build_runs15
  have S1 := size_ints32
  have S2 := size_r5
  have S3 := size_r15
  have O1 := one_ints32
  have O2 := one_r5
  have O3 := one_r15
  obtain ⟨x1, hx1⟩ : ∃ v, ints32 = v := ⟨_, rfl⟩
  obtain ⟨x2, hx2⟩ : ∃ v, cells7 r5 = v := ⟨_, rfl⟩
  obtain ⟨x3, hx3⟩ : ∃ v, cells7 r15 = v := ⟨_, rfl⟩
  rw [hx1] at hb1 S1 O1 H3
  rw [hx2] at hb2 S2 O2 H4
  rw [hx3] at hb3 S3 O3 H5
  clear hx1 hx2 hx3
  replace S1 := Lib.hid S1
  have Z1 := S1
  replace S2 := Lib.hid S2
  have Z2 := S2
  replace S3 := Lib.hid S3
  have Z3 := S3
  replace O1 := Lib.hid O1
  replace O2 := Lib.hid O2
  replace O3 := Lib.hid O3
  go_enter Tryz.func133, Tryz.ntmps133
  go_wp2_with (first
    | (refine wpList_build_to _ rfl 178 _ rfl _ _ hb1 (by simp [Act.eval]) ?_; clear hb1)
    | (refine wpList_build_to _ rfl 182 _ rfl _ _ hb2 (by simp [Act.eval]) ?_; clear hb2)
    | (refine wpList_build_to _ rfl 182 _ rfl _ _ hb3 (by simp [Act.eval]) ?_; clear hb3)
    | (refine wpList_alloc_agg _ rfl _ rfl _ _ info_blk ?_)
    | (refine wpList_store_agg _ rfl 178 _ _ rfl _ x1 32 info_blk (by simp) S1.out O1.out rfl rfl ?_; intro w1 hk1 hl1; clear S1 O1)
    | (refine wpList_alloc_agg _ rfl _ rfl _ _ info_runs ?_)
    | (refine wpList_store_agg _ rfl 182 _ _ rfl _ x2 21 info_runs (by simp) S2.out O2.out rfl rfl ?_; intro w2 hk2 hl2; clear S2 O2)
    | (refine wpList_store_agg _ rfl 182 _ _ rfl _ x3 21 info_runs (by simp) S3.out O3.out rfl rfl ?_; intro w3 hk3 hl3; clear S3 O3)
    | (refine wpList_load_blk _ rfl 178 _ rfl _ x1 32 32 3 Tryz.underlying178 info_blk Z1.out w.heap.size rfl (((hk1.below hl2).below hl3).alloc _) ?_; clear Z1)
    | (refine wpList_insert_own _ rfl _ _ _ 156 rfl 23 154 lawI8 Tryz.underlying156 fnR w3.heap.size 0 (.map []) rfl (World.ownsMap_made _ _ _ _) (by unfold maxLen; omega) (.int .i8 3) _ (.int .i8 3) rfl rfl (keyOf_int_mk Tryz.underlying23 (by decide)) _ [] rfl ?_; intro w4 hown4 hgrow4)
    | (refine wpList_load_blk _ rfl 182 _ rfl _ x2 21 7 180 Tryz.underlying182 info_runs Z2.out w1.heap.size rfl (((hk2.below hl3).alloc _).grown hgrow4 (Nat.ne_of_lt (hk2.below hl3).lt)) ?_; clear Z2)
    | (refine wpList_insert_own _ rfl _ _ _ 156 rfl 23 154 lawI8 Tryz.underlying156 fnR w3.heap.size 1 _ rfl hown4 (by unfold maxLen; omega) (.int .i8 4) _ (.int .i8 4) rfl rfl (keyOf_int_mk Tryz.underlying23 (by decide)) _ [] rfl ?_; clear hown4; intro w5 hown5 hgrow5)
    | (refine wpList_load_blk _ rfl 182 _ rfl _ x3 21 7 180 Tryz.underlying182 info_runs Z3.out w2.heap.size rfl (((hk3.alloc _).grown hgrow4 (Nat.ne_of_lt hk3.lt)).grown hgrow5 (Nat.ne_of_lt hk3.lt)) ?_; clear Z3)
    | (refine wpList_insert_own _ rfl _ _ _ 156 rfl 23 154 lawI8 Tryz.underlying156 fnR w3.heap.size 2 _ rfl hown5 (by unfold maxLen; omega) (.int .i8 5) _ (.int .i8 5) rfl rfl (keyOf_int_mk Tryz.underlying23 (by decide)) _ [] rfl ?_; clear hown5; intro w6 hown6 hgrow6))
  have HB : Hid (Below w.heap.size w w3) := Lib.hid (below_call (below_call hl1 hl2) hl3)
  have hz := HB.out.size
  have q4 : w3.heap.size + 1 ≤ w4.heap.size := by have := hgrow4.size; simpa using this
  have q5 := hgrow5.size
  have HB6 : Hid (Below w.heap.size w w6) := Lib.hid ((((HB.out.alloc hz _).grown hgrow4 (by simp; omega) (fun k e => by cases e; exact hz)).grown hgrow5 (by omega) (fun k e => by cases e; exact hz)).grown hgrow6 (by omega) (fun k e => by cases e; exact hz))
  have HO := Lib.hid hown6
  clear hown6
  go_ret
  refine ⟨_, rfl, hz, ?_, HB6.out⟩
  rw [H3.out, H4.out, H5.out]
  exact HO.out
end Go.Proofs.YtppabkllconkjaaGreatDoor.U
