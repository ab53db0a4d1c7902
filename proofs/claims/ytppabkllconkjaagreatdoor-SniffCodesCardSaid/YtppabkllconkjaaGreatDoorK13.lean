/- Joined: MP. -/
import Derived.BigQuiet
import Derived.Deep.AppendLies
import Derived.Deep.DeepCutAuto
import Derived.Deep.LoopGhost
import Derived.Deep.QuietTactic
import Derived.Deep.RegionHeld3
import Derived.Deep.RegionLaw
import Derived.Deep.WholeRow
import Derived.Laws.AppendOwn
import Derived.Laws.BytesArg
import Derived.Laws.DeepStrings4
import Derived.Laws.Externs
import Derived.Laws.IdiomStrings
import Derived.Laws.ResultCell
import Derived.Laws.Rows
import Derived.Lib.Bytealg
import Derived.Lib.Hide
import Derived.LoopN
import Derived.Maps.AppendAt
import Derived.Maps.Own
import Derived.Maps.OwnSet
import Derived.OpenShut
import Derived.Outline
import Derived.ProofKit
import Derived.StillTailTactics
import Derived.Test.YtppabkllconkjaaGreatDoorRows
import Derived.WalkKit
import Derived.WalkMore
import Derived.Test.YtppabkllconkjaaGreatDoorK05
import Derived.Test.YtppabkllconkjaaGreatDoorK09
import Derived.Test.YtppabkllconkjaaGreatDoorK10
import Derived.Test.YtppabkllconkjaaGreatDoorK11
import Derived.Test.YtppabkllconkjaaGreatDoorK12
/- The contract of Parse. -/
namespace Go.Proofs.YtppabkllconkjaaGreatDoor.Med
open Go.RowKit
set_option linter.unusedVariables false
set_option linter.unusedSimpArgs false
set_option maxRecDepth 100000
theorem wpList_build_to {P : Program} (w : World) {ops : Array Oper} {rest : List Oper} {o : Oper} {a : Act} {Q : Exit → Act → World → Prop}
    (hg : o.guard = none) (T : TypeId) (parts : Array (Nat × Operand)) (hop : o.op = Op.build T parts) (vals : Array (Nat × Value)) (v : Value) (hrun : ∀ w, (Instr.build T vals).run P w = .ok v w) (hv : parts.map (fun x => (x.1, a.eval x.2)) = vals)
    (hK : wpList P ops Q rest (a.put o.dst v) w) : wpList P ops Q (o :: rest) a w := by
  refine wpList_plain hg fun K' hK' => ?_
  have h := hrun w
  rw [← hv] at h
  unfold Oper.wp
  simp only [execOp, hop, h, Sem.run_bind, Sem.run_pure, Result.andThen_ok]
  exact hK' _ _ hK
open Lab (RetS ret_str str str_size str_list str_eta str_inj u8v st_ixb info5 info_parts)
theorem byteAt_any (s : ByteArray) (k : Nat) (w : World) (hs : s.size ≤ maxLen) : Calls Tryz.prog 80 #[.string s, .int .i64 (k : Int)] w fun e w' => e = .returned (.int .i64 (ck s.data.toList[k]?)) ∧ w' = w := by
  unfold maxLen at hs
  by_cases hk : k < s.size
  · have hk0 : (0 : Int) ≤ (k : Int) := by omega
    have hk3 : (k : Int) < (s.size : Int) := by omega
    have hsd : k < s.data.size := hk
    have HK : Hid (ck s.data.toList[k]? = (s[k].toNat : Int)) := Lib.hid (by
      rw [Array.getElem?_toList, Array.getElem?_eq_getElem hsd]; rfl)
    have hw : wrap64 (s[k].toNat : Int) = (s[k].toNat : Int) := by
      have := s[k].toNat_lt
      unfold wrap64; omega
    go_enter Tryz.func80, Tryz.ntmps80
    go_wp2_with fail
    go_ret
    exact ⟨(ret_int hw).trans (by rw [HK.out]), rfl⟩
  · have hsd : s.data.size ≤ k := by have : s.data.size = s.size := rfl; omega
    have HK : Hid (ck s.data.toList[k]? = -1) := Lib.hid (by
      rw [Array.getElem?_toList, Array.getElem?_eq_none hsd]; rfl)
    go_enter Tryz.func80, Tryz.ntmps80
    go_wp2_with fail
    go_ret
    exact ⟨by rw [HK.out]; rfl, rfl⟩
/-- u is a slice of parameters that reads as ps. -/
def Prs (w : World) (u : Value) (ps : List Par) : Prop :=
  ∃ p cap, u = .slice p ps.length cap ∧ (ps = [] ∨ ∃ b off, p = some ⟨b, off, none⟩ ∧ b < w.heap.size ∧ ∀ i (h : i < ps.length), w.cell? ⟨b, off + i * 2, none⟩ = some (.string (str ps[i].1)) ∧ w.cell? ⟨b, off + i * 2 + 1, none⟩ = some (.string (str ps[i].2)))
theorem Prs.below {w w' : World} {u : Value} {ps : List Par} (h : Prs w u ps) (hb : Below w.heap.size w w') : Prs w' u ps := by
  obtain ⟨p, cap, e, h | ⟨b, off, e2, hl, hc⟩⟩ := h
  · exact ⟨p, cap, e, .inl h⟩
  · exact ⟨p, cap, e, .inr ⟨b, off, e2, by have := hb.size; omega, fun i hi => ⟨(hb.cell (p := ⟨b, off + i * 2, none⟩) hl).trans (hc i hi).1, (hb.cell (p := ⟨b, off + i * 2 + 1, none⟩) hl).trans (hc i hi).2⟩⟩⟩
theorem prs_nil (w : World) : Prs w (.slice none 0 0) [] := ⟨none, 0, rfl, .inl rfl⟩
theorem prs_own {w : World} {base : Nat} {u : Value} {ps : List Par} (h : w.ownsRow base 92 2 u ps.length (cellsP ps)) : Prs w u ps := by
  rcases h.2 with ⟨rfl, h0⟩ | ⟨g, cap, cur, rfl, hb, hg, _⟩
  · have := List.eq_nil_of_length_eq_zero h0
    subst this
    exact prs_nil w
  · refine ⟨_, cap, rfl, .inr ⟨g, 0, rfl, (Array.getElem?_eq_some_iff.1 hg).1, fun i hi => ?_⟩⟩
    have h1 := h.cellAt (i * 2) (by omega)
    have h2 := h.cellAt (i * 2 + 1) (by omega)
    have h3 := cellsP_at ps i hi
    rw [Nat.zero_add]
    rw [Nat.mul_comm 2 i] at h3
    exact ⟨h1.trans h3.1, h2.trans h3.2⟩
def medOf (r : Option Med) : Med := r.getD ([], [])
def errOf (r : Option Med) : Int := if r.isSome then 0 else 70
/-- A Content-Type, or the error. -/
def ParseE (r : Option Med) (w : World) (e : Ending) (w' : World) : Prop :=
  ∃ u, e = .returned (.tuple #[.agg #[.string (str (medOf r).1), u], .int .i64 (errOf r)]) ∧ Prs w' u (medOf r).2 ∧ Below w.heap.size w w'
theorem Fr.blk {n B R : Nat} {w w' : World} {C : Array Value} {T : TypeId} (h : Fr n B w w') (hb : Blk w R C T) (h1 : R < n) (h2 : R ≠ B) : Blk w' R C T := (h.block R h1 h2).trans hb
/-- One byte, read at a place. -/
def MethC (a f : Nat) : Prop := ∀ (c : Option UInt8) (s : St) (n₀ B : Nat) (w : World), RdS w n₀ B s → s.wd.length ≤ 1000000 → s.ps.length ≤ 1000000 → Inv a s → Calls Tryz.prog f #[.pointer (some ⟨B, 0, none⟩), .int .i64 (ck c)] w fun e w' => StepE w n₀ B (stp a c s) e w'
theorem meth2 : MethC 2 108 := fun c s n₀ B w h hl hp _ => m_start c s n₀ B w h hl hp
theorem meth3 : MethC 3 109 := fun c s n₀ B w h hl hp _ => m_top c s n₀ B w h hl hp
theorem meth4 : MethC 4 110 := fun c s n₀ B w h hl hp _ => m_slashed c s n₀ B w h hl hp
theorem meth5 : MethC 5 111 := fun c s n₀ B w h hl hp _ => m_sub c s n₀ B w h hl hp
theorem meth6 : MethC 6 112 := fun c s n₀ B w h hl hp _ => by
  refine (m_behind c B w).mono ?_
  rintro e w9 ⟨rfl, hw9⟩
  subst w9
  exact ⟨rfl, h, Fr.refl _ _ _⟩
theorem meth7 : MethC 7 113 := fun c s n₀ B w h hl hp _ => m_opened c s n₀ B w h hl hp
theorem meth8 : MethC 8 114 := fun c s n₀ B w h hl hp _ => m_named c s n₀ B w h hl hp
theorem meth9 : MethC 9 115 := fun c s n₀ B w h hl hp _ => m_assigned c s n₀ B w h hl hp
theorem meth10 : MethC 10 116 := fun c s n₀ B w h hl hp hi => m_worded c s n₀ B w h hl hp (hi.2.2 (by decide))
theorem meth11 : MethC 11 117 := fun c s n₀ B w h hl hp hi => m_quoted c s n₀ B w h hl hp (hi.2.2 (by decide))
theorem meth12 : MethC 12 118 := fun c s n₀ B w h hl hp _ => m_escaped c s n₀ B w h hl hp
theorem meth_any {a : Nat} (h2 : 2 ≤ a) (h12 : a ≤ 12) : MethC a (106 + a) := by
  have : a = 2 ∨ a = 3 ∨ a = 4 ∨ a = 5 ∨ a = 6 ∨ a = 7 ∨ a = 8 ∨ a = 9 ∨ a = 10 ∨ a = 11 ∨ a = 12 := by omega
  rcases this with rfl | rfl | rfl | rfl | rfl | rfl | rfl | rfl | rfl | rfl | rfl
  · exact meth2
  · exact meth3
  · exact meth4
  · exact meth5
  · exact meth6
  · exact meth7
  · exact meth8
  · exact meth9
  · exact meth10
  · exact meth11
  · exact meth12
theorem info25 : (Tryz.prog.info? 57).map (fun i => (i.zero, i.size)) = some (some (.agg #[.string ⟨#[]⟩, .slice none 0 0]), 2) := by kernel_rfl
theorem build42 (w : World) : (Instr.build 118 #[]).run Tryz.prog w = .ok (.agg #[.string ⟨#[]⟩, .slice none 0 0, .slice none 0 0]) w := by kernel_rfl
theorem blk2 {w : World} {b : Nat} {x y : Value} {T : TypeId} (h : Blk w b #[x, y] T) : w.cell? ⟨b, 0, none⟩ = some x ∧ w.cell? ⟨b, 1, none⟩ = some y ∧ w.frozen? ⟨b, 0, none⟩ = false ∧ w.frozen? ⟨b, 1, none⟩ = false :=
  ⟨by rw [h.cell]; rfl, by rw [h.cell]; rfl, h.froz 0, h.froz 1⟩
theorem fin1 {w2 : World} {n B R : Nat} {st2 : St} {u2 v2 x y : Value} (h : Rd w2 n B st2 u2 v2) (k : Blk w2 R #[x, y] 57) (a b : Value) : Prs ((w2.setCell ⟨R, 0, none⟩ a).setCell ⟨R, 1, none⟩ b) u2 st2.ps :=
  prs_own (own_set (own_set h.pr k (by decide) 0 a) (k.set rfl) (by decide) 1 b)
theorem load25 {W : World} {R : Nat} {x y : Value} (h : Blk W R #[x, y] 57) : (loadVar 57 ⟨R, 0, none⟩).run Tryz.prog W = .ok (.agg #[x, y]) W :=
  run_loadVar_row W R 57 57 #[x, y] (0, 0) _ h Tryz.underlying57 rfl (zero_of_info info25).2
theorem Rd.uform {w : World} {n₀ B : Nat} {s : St} {u v : Value} (h : Rd w n₀ B s u v) : ∃ p cap, u = .slice p s.ps.length cap := by
  rcases h.pr.2 with ⟨rfl, h0⟩ | ⟨g, cap, cur, rfl, _⟩
  · rw [h0]; exact ⟨none, 0, rfl⟩
  · exact ⟨_, cap, rfl⟩
theorem drop_head {l : List UInt8} {k : Nat} : (l.drop k).head? = l[k]? := by rw [List.head?_drop]
set_option maxRecDepth 100000 in
set_option maxHeartbeats 8000000 in
theorem parse_any (s : ByteArray) (w : World) (hs : s.size ≤ 100000) : Calls Tryz.prog 41 #[.string s] w fun e w' => ParseE (parse s.data.toList) w e w' := by
  obtain ⟨R, HR⟩ : ∃ R, Hid (parse s.data.toList = R) := ⟨_, Lib.hid rfl⟩
  rw [HR.out]
  have hsz : s.data.toList.length = s.size := by simp
  obtain ⟨l, HL⟩ : ∃ l, Hid (s.data.toList = l) := ⟨_, Lib.hid rfl⟩
  have HSZ : Hid (l.length = s.size) := Lib.hid (by rw [← HL.out]; exact hsz)
  have HBA : Hid (∀ (k : Nat) (w : World), Calls Tryz.prog 80 #[.string s, .int .i64 (k : Int)] w fun e w' => e = .returned (.int .i64 (ck l[k]?)) ∧ w' = w) := Lib.hid fun k w => by
    have := byteAt_any s k w (by unfold maxLen; omega)
    rwa [HL.out] at this
  have HRP : Hid (run 2 l ⟨[], [], []⟩ = R) := Lib.hid (by rw [run_parse, ← HL.out]; exact HR.out)
  clear hsz
  go_enter Tryz.func41, Tryz.ntmps41
  have hb42 := build42
  go_wp2_with fail
  go_step3
  go_wp2_with (first
    | (refine wpList_build_to _ rfl 118 _ rfl _ _ hb42 rfl ?_; clear hb42)
    | (go_at_call 79; refine (reads_any _ _).mono ?_; rintro _ w1 ⟨g, rfl, hg1, hg2, hlk, hb1⟩))
  go_step3
  go_wp2_with fail
  have kR : Hid (Blk w1 w.heap.size #[.string ⟨#[]⟩, .slice none 0 0] 57) := Lib.hid (((Blk.new w _ 57).alloc _).below hb1)
  have kB : Hid (Blk w1 (w.heap.size + 1) #[.string ⟨#[]⟩, .slice none 0 0, .slice none 0 0] 118) := Lib.hid ((Blk.new' (n := w.heap.size + 1) _ _ 118 (by simp)).below hb1)
  have z1 : w.heap.size + 2 ≤ g := by simpa using hg1
  have HB1 : Hid (Below w.heap.size w w1) := Lib.hid ((((Below.refl _ w).alloc (Nat.le_refl _) _).alloc (by simp) _).trans (hb1.mono (by simp; omega)))
  have HLK := Lib.hid hlk
  clear hlk hb1
  go_loopg [5, 7] (s.size + 1) (fun gh q1 q2 wr => ∃ (k a : Nat) (st : St), k + gh = s.size + 1 ∧ q1 = .int .i64 (a : Int) ∧ q2 = .int .i64 (k : Int) ∧ k ≤ s.size ∧ Hid (Inv a st ∧ st.wd.length ≤ k ∧ st.ps.length ≤ k) ∧ Hid (run a (l.drop k) st = R) ∧ Hid (RdS wr w1.heap.size (w.heap.size + 1) st) ∧ Hid (Fr w1.heap.size (w.heap.size + 1) w1 wr))
  case atStart =>
    refine ⟨0, 2, ⟨[], [], []⟩, by omega, rfl, rfl, by omega, Lib.hid ⟨inv_start, by simp, by simp⟩, Lib.hid HRP.out, Lib.hid ⟨_, _, ⟨kB.out, World.ownsRow_nil _ _ _ _, World.ownsRow_nil _ _ _ _, Nat.le_refl _⟩⟩, Lib.hid (Fr.refl _ _ _)⟩
  case round =>
    obtain ⟨k, a, st, hkg, rfl, rfl, hk7, HI, HRU, HRD, HFR⟩ := hrel
    have HRd : Hid (RdS wr.drew w1.heap.size (w.heap.size + 1) st) := Lib.hid (by obtain ⟨u, v, h⟩ := HRD.out; exact ⟨u, v, h.below ((Below.refl _ _).drew)⟩)
    have kRd : Hid (Blk wr.drew w.heap.size #[.string ⟨#[]⟩, .slice none 0 0] 57) := Lib.hid (HFR.out.blk kR.out (by omega) (by omega))
    have hsR : w.heap.size < w1.heap.size := by omega
    have hsR2 : w.heap.size ≠ w.heap.size + 1 := by omega
    have HB3 : Hid (∀ w2, Fr w1.heap.size (w.heap.size + 1) wr.drew w2 → Below w.heap.size w w2) := Lib.hid fun w2 h => HB1.out.trans (((HFR.out.trans (Fr.of (Below.refl _ _).drew)).trans h).below (by omega) (by omega))
    have ha : a = 2 ∨ a = 3 ∨ a = 4 ∨ a = 5 ∨ a = 6 ∨ a = 7 ∨ a = 8 ∨ a = 9 ∨ a = 10 ∨ a = 11 ∨ a = 12 := by have := HI.out.1; unfold Inv at this; omega
    rcases ha with rfl | rfl | rfl | rfl | rfl | rfl | rfl | rfl | rfl | rfl | rfl
    · have hlk : (Instr.lookup 119 (.map (some g)) (.int .i64 2) false).run Tryz.prog wr.drew = .ok (.func (.func 108) #[.pointer (some ⟨w.heap.size + 1, 0, none⟩)] #[]) wr.drew := HLK.out wr.drew (HFR.out.block g hg2 (by omega)) 2 (by decide) (by decide)
      have HM := Lib.hid (meth_any (a := 2) (by decide) (by decide) l[k]? st w1.heap.size (w.heap.size + 1) wr.drew HRd.out (by have := HI.out.2.1; omega) (by have := HI.out.2.2; omega) HI.out.1)
      have HRN := Lib.hid (run_eq 2 (l.drop k) st)
      rw [drop_head] at HRN
      have HST := Lib.hid (stp_size 2 l[k]? st)
      have HIV := Lib.hid (stp_inv (c := l[k]?) HI.out.1)
      have HEN := Lib.hid (stp_end HI.out.1)
      have HNE : Hid (l[k]? = none → (stp 2 l[k]? st).1 = 0 ∨ (stp 2 l[k]? st).1 = 1) := Lib.hid (fun e => by rw [e]; exact HEN.out)
      clear HEN
      obtain ⟨r, hr⟩ : ∃ r, stp 2 l[k]? st = r := ⟨_, rfl⟩
      rw [hr] at HM HRN HST HIV HNE
      rw [HRU.out] at HRN
      clear hr
      obtain ⟨q, st2⟩ := r
      simp only at HM HRN HST HIV HNE
      by_cases q0 : q = 0
      · subst q0
        have HN : Hid (Calls Tryz.prog 108 #[.pointer (some ⟨w.heap.size + 1, 0, none⟩), .int .i64 (ck l[k]?)] wr.drew fun e w' => e = .returned (.int .i64 0) ∧ Fr w1.heap.size (w.heap.size + 1) wr.drew w') := Lib.hid (HM.out.mono fun e w' h => ⟨h.1, h.2.2⟩)
        have HQ : Hid (R = none) := Lib.hid (by rw [HRN.out, if_pos rfl])
        clear HM HRN HST HIV HNE HI HRU HRD
        go_wp2_with fail
        go_region_held3 (fun _ => True)
          (first
            | trivial)
          (first
            | (go_at_call 80; refine (HBA.out _ _).mono ?_; rintro _ w9 ⟨rfl, hw9⟩; subst w9)
            | (go_at_call 108; refine HN.out.mono ?_; rintro _ w2 ⟨rfl, hf2⟩; have kR2 := hf2.blk kRd.out hsR hsR2; obtain ⟨d0, d1, f0, f1⟩ := blk2 kR2))
        all_goals
          have HF2 := Lib.hid hf2
          have K2 := Lib.hid kR2
          clear hf2 kR2
          go_wp2_with fail
          try rw [Exit.noGoto_ret]
          refine bodyPost_ret (v := .tuple #[.agg #[.string ⟨#[]⟩, .slice none 0 0], .int .i64 70]) ?_ rfl ⟨.slice none 0 0, by rw [HQ.out]; rfl, by rw [HQ.out]; exact prs_nil _, ((HB3.out _ HF2.out).setCell (Nat.le_refl _) _).setCell (Nat.le_refl _) _⟩
          rw [results_cell_tmp (p := 2) (u := 3) (ty := 57) rfl]
          have hl := load25 ((K2.out.set (o := 0) (v := .string ⟨#[]⟩) rfl).set (o := 1) (v := .slice none 0 0) rfl)
          simp [asAddr, hl]
      · by_cases q1 : q = 1
        · subst q1
          have HN : Hid (Calls Tryz.prog 108 #[.pointer (some ⟨w.heap.size + 1, 0, none⟩), .int .i64 (ck l[k]?)] wr.drew fun e w' => e = .returned (.int .i64 1) ∧ RdS w' w1.heap.size (w.heap.size + 1) st2 ∧ Fr w1.heap.size (w.heap.size + 1) wr.drew w') := Lib.hid HM.out
          have HQ : Hid (R = some (st2.ty, st2.ps)) := Lib.hid (by rw [HRN.out, if_neg (by decide), if_pos rfl])
          clear HM HRN HST HIV HNE HI HRU HRD q0
          go_wp2_with fail
          go_region_held3 (fun _ => True)
          (first
            | trivial)
          (first
            | (go_at_call 80; refine (HBA.out _ _).mono ?_; rintro _ w9 ⟨rfl, hw9⟩; subst w9)
            | (go_at_call 108; refine HN.out.mono ?_; rintro _ w2 ⟨rfl, ⟨u2, v2, hr2⟩, hf2⟩; obtain ⟨p2, cap2, rfl⟩ := hr2.uform; have kR2 := hf2.blk kRd.out hsR hsR2; obtain ⟨d0, d1, f0, f1⟩ := blk2 kR2; have e0 := hr2.c0; have e1 := hr2.c1))
          all_goals
            have HF2 := Lib.hid hf2
            have HR2 := Lib.hid hr2
            have K2 := Lib.hid kR2
            clear hf2 kR2 hr2
            go_wp2_with fail
            try rw [Exit.noGoto_ret]
            refine bodyPost_ret (v := .tuple #[.agg #[.string (str st2.ty), .slice p2 st2.ps.length cap2], .int .i64 0]) ?_ rfl ⟨.slice p2 st2.ps.length cap2, by rw [HQ.out]; rfl, by rw [HQ.out]; exact fin1 HR2.out K2.out _ _, ((HB3.out _ HF2.out).setCell (Nat.le_refl _) _).setCell (Nat.le_refl _) _⟩
            rw [results_cell_tmp (p := 2) (u := 3) (ty := 57) rfl]
            have hl := load25 ((K2.out.set (o := 0) (v := .string (str st2.ty)) rfl).set (o := 1) (v := .slice p2 st2.ps.length cap2) rfl)
            simp [asAddr, hl]
        · have hkl : k < s.size := by
            rcases Nat.lt_or_ge k s.size with h | h
            · exact h
            · have h3 : l[k]? = none := List.getElem?_eq_none (by rw [HSZ.out]; exact h)
              rcases HNE.out h3 with h4 | h4
              · exact absurd h4 q0
              · exact absurd h4 q1
          have HN : Hid (Calls Tryz.prog 108 #[.pointer (some ⟨w.heap.size + 1, 0, none⟩), .int .i64 (ck l[k]?)] wr.drew fun e w' => e = .returned (.int .i64 (q : Int)) ∧ RdS w' w1.heap.size (w.heap.size + 1) st2 ∧ Fr w1.heap.size (w.heap.size + 1) wr.drew w') := Lib.hid HM.out
          have HQ : Hid (run q (l.drop (k + 1)) st2 = R) := Lib.hid (by
            have hd := List.drop_eq_getElem_cons (show k < l.length by rw [HSZ.out]; exact hkl)
            rw [HRN.out, if_neg q0, if_neg q1, hd])
          have HI2 : Hid (Inv q st2 ∧ st2.wd.length ≤ k + 1 ∧ st2.ps.length ≤ k + 1) := Lib.hid ⟨HIV.out q0 q1, by have := HST.out.1; have := HI.out.2.1; omega, by have := HST.out.2; have := HI.out.2.2; omega⟩
          have t0 : ((q : Int) == 0) = false := by simp; omega
          have t1 : ((q : Int) == 1) = false := by simp; omega
          clear HM HRN HST HIV HNE HI HRU HRD q0 q1
          go_wp2_with fail
          go_region_held3 (fun _ => True)
          (first
            | trivial)
          (first
            | (go_at_call 80; refine (HBA.out _ _).mono ?_; rintro _ w9 ⟨rfl, hw9⟩; subst w9)
            | (go_at_call 108; refine HN.out.mono ?_; rintro _ w2 ⟨rfl, hr2, hf2⟩))
          all_goals
            have HF2 := Lib.hid (((HFR.out.trans (Fr.of (Below.refl _ _).drew)).trans hf2))
            have HR2 := Lib.hid hr2
            clear hf2 hr2
            go_wp2_with fail
            go_roundg (gk - 1)
            case measure => omega
            case rel => exact ⟨k + 1, q, st2, by omega, rfl, by go_num, by omega, HI2, HQ, HR2, HF2⟩
    · have hlk : (Instr.lookup 119 (.map (some g)) (.int .i64 3) false).run Tryz.prog wr.drew = .ok (.func (.func 109) #[.pointer (some ⟨w.heap.size + 1, 0, none⟩)] #[]) wr.drew := HLK.out wr.drew (HFR.out.block g hg2 (by omega)) 3 (by decide) (by decide)
      have HM := Lib.hid (meth_any (a := 3) (by decide) (by decide) l[k]? st w1.heap.size (w.heap.size + 1) wr.drew HRd.out (by have := HI.out.2.1; omega) (by have := HI.out.2.2; omega) HI.out.1)
      have HRN := Lib.hid (run_eq 3 (l.drop k) st)
      rw [drop_head] at HRN
      have HST := Lib.hid (stp_size 3 l[k]? st)
      have HIV := Lib.hid (stp_inv (c := l[k]?) HI.out.1)
      have HEN := Lib.hid (stp_end HI.out.1)
      have HNE : Hid (l[k]? = none → (stp 3 l[k]? st).1 = 0 ∨ (stp 3 l[k]? st).1 = 1) := Lib.hid (fun e => by rw [e]; exact HEN.out)
      clear HEN
      obtain ⟨r, hr⟩ : ∃ r, stp 3 l[k]? st = r := ⟨_, rfl⟩
      rw [hr] at HM HRN HST HIV HNE
      rw [HRU.out] at HRN
      clear hr
      obtain ⟨q, st2⟩ := r
      simp only at HM HRN HST HIV HNE
      by_cases q0 : q = 0
      · subst q0
        have HN : Hid (Calls Tryz.prog 109 #[.pointer (some ⟨w.heap.size + 1, 0, none⟩), .int .i64 (ck l[k]?)] wr.drew fun e w' => e = .returned (.int .i64 0) ∧ Fr w1.heap.size (w.heap.size + 1) wr.drew w') := Lib.hid (HM.out.mono fun e w' h => ⟨h.1, h.2.2⟩)
        have HQ : Hid (R = none) := Lib.hid (by rw [HRN.out, if_pos rfl])
        clear HM HRN HST HIV HNE HI HRU HRD
        go_wp2_with fail
        go_region_held3 (fun _ => True)
          (first
            | trivial)
          (first
            | (go_at_call 80; refine (HBA.out _ _).mono ?_; rintro _ w9 ⟨rfl, hw9⟩; subst w9)
            | (go_at_call 109; refine HN.out.mono ?_; rintro _ w2 ⟨rfl, hf2⟩; have kR2 := hf2.blk kRd.out hsR hsR2; obtain ⟨d0, d1, f0, f1⟩ := blk2 kR2))
        all_goals
          have HF2 := Lib.hid hf2
          have K2 := Lib.hid kR2
          clear hf2 kR2
          go_wp2_with fail
          try rw [Exit.noGoto_ret]
          refine bodyPost_ret (v := .tuple #[.agg #[.string ⟨#[]⟩, .slice none 0 0], .int .i64 70]) ?_ rfl ⟨.slice none 0 0, by rw [HQ.out]; rfl, by rw [HQ.out]; exact prs_nil _, ((HB3.out _ HF2.out).setCell (Nat.le_refl _) _).setCell (Nat.le_refl _) _⟩
          rw [results_cell_tmp (p := 2) (u := 3) (ty := 57) rfl]
          have hl := load25 ((K2.out.set (o := 0) (v := .string ⟨#[]⟩) rfl).set (o := 1) (v := .slice none 0 0) rfl)
          simp [asAddr, hl]
      · by_cases q1 : q = 1
        · subst q1
          have HN : Hid (Calls Tryz.prog 109 #[.pointer (some ⟨w.heap.size + 1, 0, none⟩), .int .i64 (ck l[k]?)] wr.drew fun e w' => e = .returned (.int .i64 1) ∧ RdS w' w1.heap.size (w.heap.size + 1) st2 ∧ Fr w1.heap.size (w.heap.size + 1) wr.drew w') := Lib.hid HM.out
          have HQ : Hid (R = some (st2.ty, st2.ps)) := Lib.hid (by rw [HRN.out, if_neg (by decide), if_pos rfl])
          clear HM HRN HST HIV HNE HI HRU HRD q0
          go_wp2_with fail
          go_region_held3 (fun _ => True)
          (first
            | trivial)
          (first
            | (go_at_call 80; refine (HBA.out _ _).mono ?_; rintro _ w9 ⟨rfl, hw9⟩; subst w9)
            | (go_at_call 109; refine HN.out.mono ?_; rintro _ w2 ⟨rfl, ⟨u2, v2, hr2⟩, hf2⟩; obtain ⟨p2, cap2, rfl⟩ := hr2.uform; have kR2 := hf2.blk kRd.out hsR hsR2; obtain ⟨d0, d1, f0, f1⟩ := blk2 kR2; have e0 := hr2.c0; have e1 := hr2.c1))
          all_goals
            have HF2 := Lib.hid hf2
            have HR2 := Lib.hid hr2
            have K2 := Lib.hid kR2
            clear hf2 kR2 hr2
            go_wp2_with fail
            try rw [Exit.noGoto_ret]
            refine bodyPost_ret (v := .tuple #[.agg #[.string (str st2.ty), .slice p2 st2.ps.length cap2], .int .i64 0]) ?_ rfl ⟨.slice p2 st2.ps.length cap2, by rw [HQ.out]; rfl, by rw [HQ.out]; exact fin1 HR2.out K2.out _ _, ((HB3.out _ HF2.out).setCell (Nat.le_refl _) _).setCell (Nat.le_refl _) _⟩
            rw [results_cell_tmp (p := 2) (u := 3) (ty := 57) rfl]
            have hl := load25 ((K2.out.set (o := 0) (v := .string (str st2.ty)) rfl).set (o := 1) (v := .slice p2 st2.ps.length cap2) rfl)
            simp [asAddr, hl]
        · have hkl : k < s.size := by
            rcases Nat.lt_or_ge k s.size with h | h
            · exact h
            · have h3 : l[k]? = none := List.getElem?_eq_none (by rw [HSZ.out]; exact h)
              rcases HNE.out h3 with h4 | h4
              · exact absurd h4 q0
              · exact absurd h4 q1
          have HN : Hid (Calls Tryz.prog 109 #[.pointer (some ⟨w.heap.size + 1, 0, none⟩), .int .i64 (ck l[k]?)] wr.drew fun e w' => e = .returned (.int .i64 (q : Int)) ∧ RdS w' w1.heap.size (w.heap.size + 1) st2 ∧ Fr w1.heap.size (w.heap.size + 1) wr.drew w') := Lib.hid HM.out
          have HQ : Hid (run q (l.drop (k + 1)) st2 = R) := Lib.hid (by
            have hd := List.drop_eq_getElem_cons (show k < l.length by rw [HSZ.out]; exact hkl)
            rw [HRN.out, if_neg q0, if_neg q1, hd])
          have HI2 : Hid (Inv q st2 ∧ st2.wd.length ≤ k + 1 ∧ st2.ps.length ≤ k + 1) := Lib.hid ⟨HIV.out q0 q1, by have := HST.out.1; have := HI.out.2.1; omega, by have := HST.out.2; have := HI.out.2.2; omega⟩
          have t0 : ((q : Int) == 0) = false := by simp; omega
          have t1 : ((q : Int) == 1) = false := by simp; omega
          clear HM HRN HST HIV HNE HI HRU HRD q0 q1
          go_wp2_with fail
          go_region_held3 (fun _ => True)
          (first
            | trivial)
          (first
            | (go_at_call 80; refine (HBA.out _ _).mono ?_; rintro _ w9 ⟨rfl, hw9⟩; subst w9)
            | (go_at_call 109; refine HN.out.mono ?_; rintro _ w2 ⟨rfl, hr2, hf2⟩))
          all_goals
            have HF2 := Lib.hid (((HFR.out.trans (Fr.of (Below.refl _ _).drew)).trans hf2))
            have HR2 := Lib.hid hr2
            clear hf2 hr2
            go_wp2_with fail
            go_roundg (gk - 1)
            case measure => omega
            case rel => exact ⟨k + 1, q, st2, by omega, rfl, by go_num, by omega, HI2, HQ, HR2, HF2⟩
    · have hlk : (Instr.lookup 119 (.map (some g)) (.int .i64 4) false).run Tryz.prog wr.drew = .ok (.func (.func 110) #[.pointer (some ⟨w.heap.size + 1, 0, none⟩)] #[]) wr.drew := HLK.out wr.drew (HFR.out.block g hg2 (by omega)) 4 (by decide) (by decide)
      have HM := Lib.hid (meth_any (a := 4) (by decide) (by decide) l[k]? st w1.heap.size (w.heap.size + 1) wr.drew HRd.out (by have := HI.out.2.1; omega) (by have := HI.out.2.2; omega) HI.out.1)
      have HRN := Lib.hid (run_eq 4 (l.drop k) st)
      rw [drop_head] at HRN
      have HST := Lib.hid (stp_size 4 l[k]? st)
      have HIV := Lib.hid (stp_inv (c := l[k]?) HI.out.1)
      have HEN := Lib.hid (stp_end HI.out.1)
      have HNE : Hid (l[k]? = none → (stp 4 l[k]? st).1 = 0 ∨ (stp 4 l[k]? st).1 = 1) := Lib.hid (fun e => by rw [e]; exact HEN.out)
      clear HEN
      obtain ⟨r, hr⟩ : ∃ r, stp 4 l[k]? st = r := ⟨_, rfl⟩
      rw [hr] at HM HRN HST HIV HNE
      rw [HRU.out] at HRN
      clear hr
      obtain ⟨q, st2⟩ := r
      simp only at HM HRN HST HIV HNE
      by_cases q0 : q = 0
      · subst q0
        have HN : Hid (Calls Tryz.prog 110 #[.pointer (some ⟨w.heap.size + 1, 0, none⟩), .int .i64 (ck l[k]?)] wr.drew fun e w' => e = .returned (.int .i64 0) ∧ Fr w1.heap.size (w.heap.size + 1) wr.drew w') := Lib.hid (HM.out.mono fun e w' h => ⟨h.1, h.2.2⟩)
        have HQ : Hid (R = none) := Lib.hid (by rw [HRN.out, if_pos rfl])
        clear HM HRN HST HIV HNE HI HRU HRD
        go_wp2_with fail
        go_region_held3 (fun _ => True)
          (first
            | trivial)
          (first
            | (go_at_call 80; refine (HBA.out _ _).mono ?_; rintro _ w9 ⟨rfl, hw9⟩; subst w9)
            | (go_at_call 110; refine HN.out.mono ?_; rintro _ w2 ⟨rfl, hf2⟩; have kR2 := hf2.blk kRd.out hsR hsR2; obtain ⟨d0, d1, f0, f1⟩ := blk2 kR2))
        all_goals
          have HF2 := Lib.hid hf2
          have K2 := Lib.hid kR2
          clear hf2 kR2
          go_wp2_with fail
          try rw [Exit.noGoto_ret]
          refine bodyPost_ret (v := .tuple #[.agg #[.string ⟨#[]⟩, .slice none 0 0], .int .i64 70]) ?_ rfl ⟨.slice none 0 0, by rw [HQ.out]; rfl, by rw [HQ.out]; exact prs_nil _, ((HB3.out _ HF2.out).setCell (Nat.le_refl _) _).setCell (Nat.le_refl _) _⟩
          rw [results_cell_tmp (p := 2) (u := 3) (ty := 57) rfl]
          have hl := load25 ((K2.out.set (o := 0) (v := .string ⟨#[]⟩) rfl).set (o := 1) (v := .slice none 0 0) rfl)
          simp [asAddr, hl]
      · by_cases q1 : q = 1
        · subst q1
          have HN : Hid (Calls Tryz.prog 110 #[.pointer (some ⟨w.heap.size + 1, 0, none⟩), .int .i64 (ck l[k]?)] wr.drew fun e w' => e = .returned (.int .i64 1) ∧ RdS w' w1.heap.size (w.heap.size + 1) st2 ∧ Fr w1.heap.size (w.heap.size + 1) wr.drew w') := Lib.hid HM.out
          have HQ : Hid (R = some (st2.ty, st2.ps)) := Lib.hid (by rw [HRN.out, if_neg (by decide), if_pos rfl])
          clear HM HRN HST HIV HNE HI HRU HRD q0
          go_wp2_with fail
          go_region_held3 (fun _ => True)
          (first
            | trivial)
          (first
            | (go_at_call 80; refine (HBA.out _ _).mono ?_; rintro _ w9 ⟨rfl, hw9⟩; subst w9)
            | (go_at_call 110; refine HN.out.mono ?_; rintro _ w2 ⟨rfl, ⟨u2, v2, hr2⟩, hf2⟩; obtain ⟨p2, cap2, rfl⟩ := hr2.uform; have kR2 := hf2.blk kRd.out hsR hsR2; obtain ⟨d0, d1, f0, f1⟩ := blk2 kR2; have e0 := hr2.c0; have e1 := hr2.c1))
          all_goals
            have HF2 := Lib.hid hf2
            have HR2 := Lib.hid hr2
            have K2 := Lib.hid kR2
            clear hf2 kR2 hr2
            go_wp2_with fail
            try rw [Exit.noGoto_ret]
            refine bodyPost_ret (v := .tuple #[.agg #[.string (str st2.ty), .slice p2 st2.ps.length cap2], .int .i64 0]) ?_ rfl ⟨.slice p2 st2.ps.length cap2, by rw [HQ.out]; rfl, by rw [HQ.out]; exact fin1 HR2.out K2.out _ _, ((HB3.out _ HF2.out).setCell (Nat.le_refl _) _).setCell (Nat.le_refl _) _⟩
            rw [results_cell_tmp (p := 2) (u := 3) (ty := 57) rfl]
            have hl := load25 ((K2.out.set (o := 0) (v := .string (str st2.ty)) rfl).set (o := 1) (v := .slice p2 st2.ps.length cap2) rfl)
            simp [asAddr, hl]
        · have hkl : k < s.size := by
            rcases Nat.lt_or_ge k s.size with h | h
            · exact h
            · have h3 : l[k]? = none := List.getElem?_eq_none (by rw [HSZ.out]; exact h)
              rcases HNE.out h3 with h4 | h4
              · exact absurd h4 q0
              · exact absurd h4 q1
          have HN : Hid (Calls Tryz.prog 110 #[.pointer (some ⟨w.heap.size + 1, 0, none⟩), .int .i64 (ck l[k]?)] wr.drew fun e w' => e = .returned (.int .i64 (q : Int)) ∧ RdS w' w1.heap.size (w.heap.size + 1) st2 ∧ Fr w1.heap.size (w.heap.size + 1) wr.drew w') := Lib.hid HM.out
          have HQ : Hid (run q (l.drop (k + 1)) st2 = R) := Lib.hid (by
            have hd := List.drop_eq_getElem_cons (show k < l.length by rw [HSZ.out]; exact hkl)
            rw [HRN.out, if_neg q0, if_neg q1, hd])
          have HI2 : Hid (Inv q st2 ∧ st2.wd.length ≤ k + 1 ∧ st2.ps.length ≤ k + 1) := Lib.hid ⟨HIV.out q0 q1, by have := HST.out.1; have := HI.out.2.1; omega, by have := HST.out.2; have := HI.out.2.2; omega⟩
          have t0 : ((q : Int) == 0) = false := by simp; omega
          have t1 : ((q : Int) == 1) = false := by simp; omega
          clear HM HRN HST HIV HNE HI HRU HRD q0 q1
          go_wp2_with fail
          go_region_held3 (fun _ => True)
          (first
            | trivial)
          (first
            | (go_at_call 80; refine (HBA.out _ _).mono ?_; rintro _ w9 ⟨rfl, hw9⟩; subst w9)
            | (go_at_call 110; refine HN.out.mono ?_; rintro _ w2 ⟨rfl, hr2, hf2⟩))
          all_goals
            have HF2 := Lib.hid (((HFR.out.trans (Fr.of (Below.refl _ _).drew)).trans hf2))
            have HR2 := Lib.hid hr2
            clear hf2 hr2
            go_wp2_with fail
            go_roundg (gk - 1)
            case measure => omega
            case rel => exact ⟨k + 1, q, st2, by omega, rfl, by go_num, by omega, HI2, HQ, HR2, HF2⟩
    · have hlk : (Instr.lookup 119 (.map (some g)) (.int .i64 5) false).run Tryz.prog wr.drew = .ok (.func (.func 111) #[.pointer (some ⟨w.heap.size + 1, 0, none⟩)] #[]) wr.drew := HLK.out wr.drew (HFR.out.block g hg2 (by omega)) 5 (by decide) (by decide)
      have HM := Lib.hid (meth_any (a := 5) (by decide) (by decide) l[k]? st w1.heap.size (w.heap.size + 1) wr.drew HRd.out (by have := HI.out.2.1; omega) (by have := HI.out.2.2; omega) HI.out.1)
      have HRN := Lib.hid (run_eq 5 (l.drop k) st)
      rw [drop_head] at HRN
      have HST := Lib.hid (stp_size 5 l[k]? st)
      have HIV := Lib.hid (stp_inv (c := l[k]?) HI.out.1)
      have HEN := Lib.hid (stp_end HI.out.1)
      have HNE : Hid (l[k]? = none → (stp 5 l[k]? st).1 = 0 ∨ (stp 5 l[k]? st).1 = 1) := Lib.hid (fun e => by rw [e]; exact HEN.out)
      clear HEN
      obtain ⟨r, hr⟩ : ∃ r, stp 5 l[k]? st = r := ⟨_, rfl⟩
      rw [hr] at HM HRN HST HIV HNE
      rw [HRU.out] at HRN
      clear hr
      obtain ⟨q, st2⟩ := r
      simp only at HM HRN HST HIV HNE
      by_cases q0 : q = 0
      · subst q0
        have HN : Hid (Calls Tryz.prog 111 #[.pointer (some ⟨w.heap.size + 1, 0, none⟩), .int .i64 (ck l[k]?)] wr.drew fun e w' => e = .returned (.int .i64 0) ∧ Fr w1.heap.size (w.heap.size + 1) wr.drew w') := Lib.hid (HM.out.mono fun e w' h => ⟨h.1, h.2.2⟩)
        have HQ : Hid (R = none) := Lib.hid (by rw [HRN.out, if_pos rfl])
        clear HM HRN HST HIV HNE HI HRU HRD
        go_wp2_with fail
        go_region_held3 (fun _ => True)
          (first
            | trivial)
          (first
            | (go_at_call 80; refine (HBA.out _ _).mono ?_; rintro _ w9 ⟨rfl, hw9⟩; subst w9)
            | (go_at_call 111; refine HN.out.mono ?_; rintro _ w2 ⟨rfl, hf2⟩; have kR2 := hf2.blk kRd.out hsR hsR2; obtain ⟨d0, d1, f0, f1⟩ := blk2 kR2))
        all_goals
          have HF2 := Lib.hid hf2
          have K2 := Lib.hid kR2
          clear hf2 kR2
          go_wp2_with fail
          try rw [Exit.noGoto_ret]
          refine bodyPost_ret (v := .tuple #[.agg #[.string ⟨#[]⟩, .slice none 0 0], .int .i64 70]) ?_ rfl ⟨.slice none 0 0, by rw [HQ.out]; rfl, by rw [HQ.out]; exact prs_nil _, ((HB3.out _ HF2.out).setCell (Nat.le_refl _) _).setCell (Nat.le_refl _) _⟩
          rw [results_cell_tmp (p := 2) (u := 3) (ty := 57) rfl]
          have hl := load25 ((K2.out.set (o := 0) (v := .string ⟨#[]⟩) rfl).set (o := 1) (v := .slice none 0 0) rfl)
          simp [asAddr, hl]
      · by_cases q1 : q = 1
        · subst q1
          have HN : Hid (Calls Tryz.prog 111 #[.pointer (some ⟨w.heap.size + 1, 0, none⟩), .int .i64 (ck l[k]?)] wr.drew fun e w' => e = .returned (.int .i64 1) ∧ RdS w' w1.heap.size (w.heap.size + 1) st2 ∧ Fr w1.heap.size (w.heap.size + 1) wr.drew w') := Lib.hid HM.out
          have HQ : Hid (R = some (st2.ty, st2.ps)) := Lib.hid (by rw [HRN.out, if_neg (by decide), if_pos rfl])
          clear HM HRN HST HIV HNE HI HRU HRD q0
          go_wp2_with fail
          go_region_held3 (fun _ => True)
          (first
            | trivial)
          (first
            | (go_at_call 80; refine (HBA.out _ _).mono ?_; rintro _ w9 ⟨rfl, hw9⟩; subst w9)
            | (go_at_call 111; refine HN.out.mono ?_; rintro _ w2 ⟨rfl, ⟨u2, v2, hr2⟩, hf2⟩; obtain ⟨p2, cap2, rfl⟩ := hr2.uform; have kR2 := hf2.blk kRd.out hsR hsR2; obtain ⟨d0, d1, f0, f1⟩ := blk2 kR2; have e0 := hr2.c0; have e1 := hr2.c1))
          all_goals
            have HF2 := Lib.hid hf2
            have HR2 := Lib.hid hr2
            have K2 := Lib.hid kR2
            clear hf2 kR2 hr2
            go_wp2_with fail
            try rw [Exit.noGoto_ret]
            refine bodyPost_ret (v := .tuple #[.agg #[.string (str st2.ty), .slice p2 st2.ps.length cap2], .int .i64 0]) ?_ rfl ⟨.slice p2 st2.ps.length cap2, by rw [HQ.out]; rfl, by rw [HQ.out]; exact fin1 HR2.out K2.out _ _, ((HB3.out _ HF2.out).setCell (Nat.le_refl _) _).setCell (Nat.le_refl _) _⟩
            rw [results_cell_tmp (p := 2) (u := 3) (ty := 57) rfl]
            have hl := load25 ((K2.out.set (o := 0) (v := .string (str st2.ty)) rfl).set (o := 1) (v := .slice p2 st2.ps.length cap2) rfl)
            simp [asAddr, hl]
        · have hkl : k < s.size := by
            rcases Nat.lt_or_ge k s.size with h | h
            · exact h
            · have h3 : l[k]? = none := List.getElem?_eq_none (by rw [HSZ.out]; exact h)
              rcases HNE.out h3 with h4 | h4
              · exact absurd h4 q0
              · exact absurd h4 q1
          have HN : Hid (Calls Tryz.prog 111 #[.pointer (some ⟨w.heap.size + 1, 0, none⟩), .int .i64 (ck l[k]?)] wr.drew fun e w' => e = .returned (.int .i64 (q : Int)) ∧ RdS w' w1.heap.size (w.heap.size + 1) st2 ∧ Fr w1.heap.size (w.heap.size + 1) wr.drew w') := Lib.hid HM.out
          have HQ : Hid (run q (l.drop (k + 1)) st2 = R) := Lib.hid (by
            have hd := List.drop_eq_getElem_cons (show k < l.length by rw [HSZ.out]; exact hkl)
            rw [HRN.out, if_neg q0, if_neg q1, hd])
          have HI2 : Hid (Inv q st2 ∧ st2.wd.length ≤ k + 1 ∧ st2.ps.length ≤ k + 1) := Lib.hid ⟨HIV.out q0 q1, by have := HST.out.1; have := HI.out.2.1; omega, by have := HST.out.2; have := HI.out.2.2; omega⟩
          have t0 : ((q : Int) == 0) = false := by simp; omega
          have t1 : ((q : Int) == 1) = false := by simp; omega
          clear HM HRN HST HIV HNE HI HRU HRD q0 q1
          go_wp2_with fail
          go_region_held3 (fun _ => True)
          (first
            | trivial)
          (first
            | (go_at_call 80; refine (HBA.out _ _).mono ?_; rintro _ w9 ⟨rfl, hw9⟩; subst w9)
            | (go_at_call 111; refine HN.out.mono ?_; rintro _ w2 ⟨rfl, hr2, hf2⟩))
          all_goals
            have HF2 := Lib.hid (((HFR.out.trans (Fr.of (Below.refl _ _).drew)).trans hf2))
            have HR2 := Lib.hid hr2
            clear hf2 hr2
            go_wp2_with fail
            go_roundg (gk - 1)
            case measure => omega
            case rel => exact ⟨k + 1, q, st2, by omega, rfl, by go_num, by omega, HI2, HQ, HR2, HF2⟩
    · have hlk : (Instr.lookup 119 (.map (some g)) (.int .i64 6) false).run Tryz.prog wr.drew = .ok (.func (.func 112) #[.pointer (some ⟨w.heap.size + 1, 0, none⟩)] #[]) wr.drew := HLK.out wr.drew (HFR.out.block g hg2 (by omega)) 6 (by decide) (by decide)
      have HM := Lib.hid (meth_any (a := 6) (by decide) (by decide) l[k]? st w1.heap.size (w.heap.size + 1) wr.drew HRd.out (by have := HI.out.2.1; omega) (by have := HI.out.2.2; omega) HI.out.1)
      have HRN := Lib.hid (run_eq 6 (l.drop k) st)
      rw [drop_head] at HRN
      have HST := Lib.hid (stp_size 6 l[k]? st)
      have HIV := Lib.hid (stp_inv (c := l[k]?) HI.out.1)
      have HEN := Lib.hid (stp_end HI.out.1)
      have HNE : Hid (l[k]? = none → (stp 6 l[k]? st).1 = 0 ∨ (stp 6 l[k]? st).1 = 1) := Lib.hid (fun e => by rw [e]; exact HEN.out)
      clear HEN
      obtain ⟨r, hr⟩ : ∃ r, stp 6 l[k]? st = r := ⟨_, rfl⟩
      rw [hr] at HM HRN HST HIV HNE
      rw [HRU.out] at HRN
      clear hr
      obtain ⟨q, st2⟩ := r
      simp only at HM HRN HST HIV HNE
      by_cases q0 : q = 0
      · subst q0
        have HN : Hid (Calls Tryz.prog 112 #[.pointer (some ⟨w.heap.size + 1, 0, none⟩), .int .i64 (ck l[k]?)] wr.drew fun e w' => e = .returned (.int .i64 0) ∧ Fr w1.heap.size (w.heap.size + 1) wr.drew w') := Lib.hid (HM.out.mono fun e w' h => ⟨h.1, h.2.2⟩)
        have HQ : Hid (R = none) := Lib.hid (by rw [HRN.out, if_pos rfl])
        clear HM HRN HST HIV HNE HI HRU HRD
        go_wp2_with fail
        go_region_held3 (fun _ => True)
          (first
            | trivial)
          (first
            | (go_at_call 80; refine (HBA.out _ _).mono ?_; rintro _ w9 ⟨rfl, hw9⟩; subst w9)
            | (go_at_call 112; refine HN.out.mono ?_; rintro _ w2 ⟨rfl, hf2⟩; have kR2 := hf2.blk kRd.out hsR hsR2; obtain ⟨d0, d1, f0, f1⟩ := blk2 kR2))
        all_goals
          have HF2 := Lib.hid hf2
          have K2 := Lib.hid kR2
          clear hf2 kR2
          go_wp2_with fail
          try rw [Exit.noGoto_ret]
          refine bodyPost_ret (v := .tuple #[.agg #[.string ⟨#[]⟩, .slice none 0 0], .int .i64 70]) ?_ rfl ⟨.slice none 0 0, by rw [HQ.out]; rfl, by rw [HQ.out]; exact prs_nil _, ((HB3.out _ HF2.out).setCell (Nat.le_refl _) _).setCell (Nat.le_refl _) _⟩
          rw [results_cell_tmp (p := 2) (u := 3) (ty := 57) rfl]
          have hl := load25 ((K2.out.set (o := 0) (v := .string ⟨#[]⟩) rfl).set (o := 1) (v := .slice none 0 0) rfl)
          simp [asAddr, hl]
      · by_cases q1 : q = 1
        · subst q1
          have HN : Hid (Calls Tryz.prog 112 #[.pointer (some ⟨w.heap.size + 1, 0, none⟩), .int .i64 (ck l[k]?)] wr.drew fun e w' => e = .returned (.int .i64 1) ∧ RdS w' w1.heap.size (w.heap.size + 1) st2 ∧ Fr w1.heap.size (w.heap.size + 1) wr.drew w') := Lib.hid HM.out
          have HQ : Hid (R = some (st2.ty, st2.ps)) := Lib.hid (by rw [HRN.out, if_neg (by decide), if_pos rfl])
          clear HM HRN HST HIV HNE HI HRU HRD q0
          go_wp2_with fail
          go_region_held3 (fun _ => True)
          (first
            | trivial)
          (first
            | (go_at_call 80; refine (HBA.out _ _).mono ?_; rintro _ w9 ⟨rfl, hw9⟩; subst w9)
            | (go_at_call 112; refine HN.out.mono ?_; rintro _ w2 ⟨rfl, ⟨u2, v2, hr2⟩, hf2⟩; obtain ⟨p2, cap2, rfl⟩ := hr2.uform; have kR2 := hf2.blk kRd.out hsR hsR2; obtain ⟨d0, d1, f0, f1⟩ := blk2 kR2; have e0 := hr2.c0; have e1 := hr2.c1))
          all_goals
            have HF2 := Lib.hid hf2
            have HR2 := Lib.hid hr2
            have K2 := Lib.hid kR2
            clear hf2 kR2 hr2
            go_wp2_with fail
            try rw [Exit.noGoto_ret]
            refine bodyPost_ret (v := .tuple #[.agg #[.string (str st2.ty), .slice p2 st2.ps.length cap2], .int .i64 0]) ?_ rfl ⟨.slice p2 st2.ps.length cap2, by rw [HQ.out]; rfl, by rw [HQ.out]; exact fin1 HR2.out K2.out _ _, ((HB3.out _ HF2.out).setCell (Nat.le_refl _) _).setCell (Nat.le_refl _) _⟩
            rw [results_cell_tmp (p := 2) (u := 3) (ty := 57) rfl]
            have hl := load25 ((K2.out.set (o := 0) (v := .string (str st2.ty)) rfl).set (o := 1) (v := .slice p2 st2.ps.length cap2) rfl)
            simp [asAddr, hl]
        · have hkl : k < s.size := by
            rcases Nat.lt_or_ge k s.size with h | h
            · exact h
            · have h3 : l[k]? = none := List.getElem?_eq_none (by rw [HSZ.out]; exact h)
              rcases HNE.out h3 with h4 | h4
              · exact absurd h4 q0
              · exact absurd h4 q1
          have HN : Hid (Calls Tryz.prog 112 #[.pointer (some ⟨w.heap.size + 1, 0, none⟩), .int .i64 (ck l[k]?)] wr.drew fun e w' => e = .returned (.int .i64 (q : Int)) ∧ RdS w' w1.heap.size (w.heap.size + 1) st2 ∧ Fr w1.heap.size (w.heap.size + 1) wr.drew w') := Lib.hid HM.out
          have HQ : Hid (run q (l.drop (k + 1)) st2 = R) := Lib.hid (by
            have hd := List.drop_eq_getElem_cons (show k < l.length by rw [HSZ.out]; exact hkl)
            rw [HRN.out, if_neg q0, if_neg q1, hd])
          have HI2 : Hid (Inv q st2 ∧ st2.wd.length ≤ k + 1 ∧ st2.ps.length ≤ k + 1) := Lib.hid ⟨HIV.out q0 q1, by have := HST.out.1; have := HI.out.2.1; omega, by have := HST.out.2; have := HI.out.2.2; omega⟩
          have t0 : ((q : Int) == 0) = false := by simp; omega
          have t1 : ((q : Int) == 1) = false := by simp; omega
          clear HM HRN HST HIV HNE HI HRU HRD q0 q1
          go_wp2_with fail
          go_region_held3 (fun _ => True)
          (first
            | trivial)
          (first
            | (go_at_call 80; refine (HBA.out _ _).mono ?_; rintro _ w9 ⟨rfl, hw9⟩; subst w9)
            | (go_at_call 112; refine HN.out.mono ?_; rintro _ w2 ⟨rfl, hr2, hf2⟩))
          all_goals
            have HF2 := Lib.hid (((HFR.out.trans (Fr.of (Below.refl _ _).drew)).trans hf2))
            have HR2 := Lib.hid hr2
            clear hf2 hr2
            go_wp2_with fail
            go_roundg (gk - 1)
            case measure => omega
            case rel => exact ⟨k + 1, q, st2, by omega, rfl, by go_num, by omega, HI2, HQ, HR2, HF2⟩
    · have hlk : (Instr.lookup 119 (.map (some g)) (.int .i64 7) false).run Tryz.prog wr.drew = .ok (.func (.func 113) #[.pointer (some ⟨w.heap.size + 1, 0, none⟩)] #[]) wr.drew := HLK.out wr.drew (HFR.out.block g hg2 (by omega)) 7 (by decide) (by decide)
      have HM := Lib.hid (meth_any (a := 7) (by decide) (by decide) l[k]? st w1.heap.size (w.heap.size + 1) wr.drew HRd.out (by have := HI.out.2.1; omega) (by have := HI.out.2.2; omega) HI.out.1)
      have HRN := Lib.hid (run_eq 7 (l.drop k) st)
      rw [drop_head] at HRN
      have HST := Lib.hid (stp_size 7 l[k]? st)
      have HIV := Lib.hid (stp_inv (c := l[k]?) HI.out.1)
      have HEN := Lib.hid (stp_end HI.out.1)
      have HNE : Hid (l[k]? = none → (stp 7 l[k]? st).1 = 0 ∨ (stp 7 l[k]? st).1 = 1) := Lib.hid (fun e => by rw [e]; exact HEN.out)
      clear HEN
      obtain ⟨r, hr⟩ : ∃ r, stp 7 l[k]? st = r := ⟨_, rfl⟩
      rw [hr] at HM HRN HST HIV HNE
      rw [HRU.out] at HRN
      clear hr
      obtain ⟨q, st2⟩ := r
      simp only at HM HRN HST HIV HNE
      by_cases q0 : q = 0
      · subst q0
        have HN : Hid (Calls Tryz.prog 113 #[.pointer (some ⟨w.heap.size + 1, 0, none⟩), .int .i64 (ck l[k]?)] wr.drew fun e w' => e = .returned (.int .i64 0) ∧ Fr w1.heap.size (w.heap.size + 1) wr.drew w') := Lib.hid (HM.out.mono fun e w' h => ⟨h.1, h.2.2⟩)
        have HQ : Hid (R = none) := Lib.hid (by rw [HRN.out, if_pos rfl])
        clear HM HRN HST HIV HNE HI HRU HRD
        go_wp2_with fail
        go_region_held3 (fun _ => True)
          (first
            | trivial)
          (first
            | (go_at_call 80; refine (HBA.out _ _).mono ?_; rintro _ w9 ⟨rfl, hw9⟩; subst w9)
            | (go_at_call 113; refine HN.out.mono ?_; rintro _ w2 ⟨rfl, hf2⟩; have kR2 := hf2.blk kRd.out hsR hsR2; obtain ⟨d0, d1, f0, f1⟩ := blk2 kR2))
        all_goals
          have HF2 := Lib.hid hf2
          have K2 := Lib.hid kR2
          clear hf2 kR2
          go_wp2_with fail
          try rw [Exit.noGoto_ret]
          refine bodyPost_ret (v := .tuple #[.agg #[.string ⟨#[]⟩, .slice none 0 0], .int .i64 70]) ?_ rfl ⟨.slice none 0 0, by rw [HQ.out]; rfl, by rw [HQ.out]; exact prs_nil _, ((HB3.out _ HF2.out).setCell (Nat.le_refl _) _).setCell (Nat.le_refl _) _⟩
          rw [results_cell_tmp (p := 2) (u := 3) (ty := 57) rfl]
          have hl := load25 ((K2.out.set (o := 0) (v := .string ⟨#[]⟩) rfl).set (o := 1) (v := .slice none 0 0) rfl)
          simp [asAddr, hl]
      · by_cases q1 : q = 1
        · subst q1
          have HN : Hid (Calls Tryz.prog 113 #[.pointer (some ⟨w.heap.size + 1, 0, none⟩), .int .i64 (ck l[k]?)] wr.drew fun e w' => e = .returned (.int .i64 1) ∧ RdS w' w1.heap.size (w.heap.size + 1) st2 ∧ Fr w1.heap.size (w.heap.size + 1) wr.drew w') := Lib.hid HM.out
          have HQ : Hid (R = some (st2.ty, st2.ps)) := Lib.hid (by rw [HRN.out, if_neg (by decide), if_pos rfl])
          clear HM HRN HST HIV HNE HI HRU HRD q0
          go_wp2_with fail
          go_region_held3 (fun _ => True)
          (first
            | trivial)
          (first
            | (go_at_call 80; refine (HBA.out _ _).mono ?_; rintro _ w9 ⟨rfl, hw9⟩; subst w9)
            | (go_at_call 113; refine HN.out.mono ?_; rintro _ w2 ⟨rfl, ⟨u2, v2, hr2⟩, hf2⟩; obtain ⟨p2, cap2, rfl⟩ := hr2.uform; have kR2 := hf2.blk kRd.out hsR hsR2; obtain ⟨d0, d1, f0, f1⟩ := blk2 kR2; have e0 := hr2.c0; have e1 := hr2.c1))
          all_goals
            have HF2 := Lib.hid hf2
            have HR2 := Lib.hid hr2
            have K2 := Lib.hid kR2
            clear hf2 kR2 hr2
            go_wp2_with fail
            try rw [Exit.noGoto_ret]
            refine bodyPost_ret (v := .tuple #[.agg #[.string (str st2.ty), .slice p2 st2.ps.length cap2], .int .i64 0]) ?_ rfl ⟨.slice p2 st2.ps.length cap2, by rw [HQ.out]; rfl, by rw [HQ.out]; exact fin1 HR2.out K2.out _ _, ((HB3.out _ HF2.out).setCell (Nat.le_refl _) _).setCell (Nat.le_refl _) _⟩
            rw [results_cell_tmp (p := 2) (u := 3) (ty := 57) rfl]
            have hl := load25 ((K2.out.set (o := 0) (v := .string (str st2.ty)) rfl).set (o := 1) (v := .slice p2 st2.ps.length cap2) rfl)
            simp [asAddr, hl]
        · have hkl : k < s.size := by
            rcases Nat.lt_or_ge k s.size with h | h
            · exact h
            · have h3 : l[k]? = none := List.getElem?_eq_none (by rw [HSZ.out]; exact h)
              rcases HNE.out h3 with h4 | h4
              · exact absurd h4 q0
              · exact absurd h4 q1
          have HN : Hid (Calls Tryz.prog 113 #[.pointer (some ⟨w.heap.size + 1, 0, none⟩), .int .i64 (ck l[k]?)] wr.drew fun e w' => e = .returned (.int .i64 (q : Int)) ∧ RdS w' w1.heap.size (w.heap.size + 1) st2 ∧ Fr w1.heap.size (w.heap.size + 1) wr.drew w') := Lib.hid HM.out
          have HQ : Hid (run q (l.drop (k + 1)) st2 = R) := Lib.hid (by
            have hd := List.drop_eq_getElem_cons (show k < l.length by rw [HSZ.out]; exact hkl)
            rw [HRN.out, if_neg q0, if_neg q1, hd])
          have HI2 : Hid (Inv q st2 ∧ st2.wd.length ≤ k + 1 ∧ st2.ps.length ≤ k + 1) := Lib.hid ⟨HIV.out q0 q1, by have := HST.out.1; have := HI.out.2.1; omega, by have := HST.out.2; have := HI.out.2.2; omega⟩
          have t0 : ((q : Int) == 0) = false := by simp; omega
          have t1 : ((q : Int) == 1) = false := by simp; omega
          clear HM HRN HST HIV HNE HI HRU HRD q0 q1
          go_wp2_with fail
          go_region_held3 (fun _ => True)
          (first
            | trivial)
          (first
            | (go_at_call 80; refine (HBA.out _ _).mono ?_; rintro _ w9 ⟨rfl, hw9⟩; subst w9)
            | (go_at_call 113; refine HN.out.mono ?_; rintro _ w2 ⟨rfl, hr2, hf2⟩))
          all_goals
            have HF2 := Lib.hid (((HFR.out.trans (Fr.of (Below.refl _ _).drew)).trans hf2))
            have HR2 := Lib.hid hr2
            clear hf2 hr2
            go_wp2_with fail
            go_roundg (gk - 1)
            case measure => omega
            case rel => exact ⟨k + 1, q, st2, by omega, rfl, by go_num, by omega, HI2, HQ, HR2, HF2⟩
    · have hlk : (Instr.lookup 119 (.map (some g)) (.int .i64 8) false).run Tryz.prog wr.drew = .ok (.func (.func 114) #[.pointer (some ⟨w.heap.size + 1, 0, none⟩)] #[]) wr.drew := HLK.out wr.drew (HFR.out.block g hg2 (by omega)) 8 (by decide) (by decide)
      have HM := Lib.hid (meth_any (a := 8) (by decide) (by decide) l[k]? st w1.heap.size (w.heap.size + 1) wr.drew HRd.out (by have := HI.out.2.1; omega) (by have := HI.out.2.2; omega) HI.out.1)
      have HRN := Lib.hid (run_eq 8 (l.drop k) st)
      rw [drop_head] at HRN
      have HST := Lib.hid (stp_size 8 l[k]? st)
      have HIV := Lib.hid (stp_inv (c := l[k]?) HI.out.1)
      have HEN := Lib.hid (stp_end HI.out.1)
      have HNE : Hid (l[k]? = none → (stp 8 l[k]? st).1 = 0 ∨ (stp 8 l[k]? st).1 = 1) := Lib.hid (fun e => by rw [e]; exact HEN.out)
      clear HEN
      obtain ⟨r, hr⟩ : ∃ r, stp 8 l[k]? st = r := ⟨_, rfl⟩
      rw [hr] at HM HRN HST HIV HNE
      rw [HRU.out] at HRN
      clear hr
      obtain ⟨q, st2⟩ := r
      simp only at HM HRN HST HIV HNE
      by_cases q0 : q = 0
      · subst q0
        have HN : Hid (Calls Tryz.prog 114 #[.pointer (some ⟨w.heap.size + 1, 0, none⟩), .int .i64 (ck l[k]?)] wr.drew fun e w' => e = .returned (.int .i64 0) ∧ Fr w1.heap.size (w.heap.size + 1) wr.drew w') := Lib.hid (HM.out.mono fun e w' h => ⟨h.1, h.2.2⟩)
        have HQ : Hid (R = none) := Lib.hid (by rw [HRN.out, if_pos rfl])
        clear HM HRN HST HIV HNE HI HRU HRD
        go_wp2_with fail
        go_region_held3 (fun _ => True)
          (first
            | trivial)
          (first
            | (go_at_call 80; refine (HBA.out _ _).mono ?_; rintro _ w9 ⟨rfl, hw9⟩; subst w9)
            | (go_at_call 114; refine HN.out.mono ?_; rintro _ w2 ⟨rfl, hf2⟩; have kR2 := hf2.blk kRd.out hsR hsR2; obtain ⟨d0, d1, f0, f1⟩ := blk2 kR2))
        all_goals
          have HF2 := Lib.hid hf2
          have K2 := Lib.hid kR2
          clear hf2 kR2
          go_wp2_with fail
          try rw [Exit.noGoto_ret]
          refine bodyPost_ret (v := .tuple #[.agg #[.string ⟨#[]⟩, .slice none 0 0], .int .i64 70]) ?_ rfl ⟨.slice none 0 0, by rw [HQ.out]; rfl, by rw [HQ.out]; exact prs_nil _, ((HB3.out _ HF2.out).setCell (Nat.le_refl _) _).setCell (Nat.le_refl _) _⟩
          rw [results_cell_tmp (p := 2) (u := 3) (ty := 57) rfl]
          have hl := load25 ((K2.out.set (o := 0) (v := .string ⟨#[]⟩) rfl).set (o := 1) (v := .slice none 0 0) rfl)
          simp [asAddr, hl]
      · by_cases q1 : q = 1
        · subst q1
          have HN : Hid (Calls Tryz.prog 114 #[.pointer (some ⟨w.heap.size + 1, 0, none⟩), .int .i64 (ck l[k]?)] wr.drew fun e w' => e = .returned (.int .i64 1) ∧ RdS w' w1.heap.size (w.heap.size + 1) st2 ∧ Fr w1.heap.size (w.heap.size + 1) wr.drew w') := Lib.hid HM.out
          have HQ : Hid (R = some (st2.ty, st2.ps)) := Lib.hid (by rw [HRN.out, if_neg (by decide), if_pos rfl])
          clear HM HRN HST HIV HNE HI HRU HRD q0
          go_wp2_with fail
          go_region_held3 (fun _ => True)
          (first
            | trivial)
          (first
            | (go_at_call 80; refine (HBA.out _ _).mono ?_; rintro _ w9 ⟨rfl, hw9⟩; subst w9)
            | (go_at_call 114; refine HN.out.mono ?_; rintro _ w2 ⟨rfl, ⟨u2, v2, hr2⟩, hf2⟩; obtain ⟨p2, cap2, rfl⟩ := hr2.uform; have kR2 := hf2.blk kRd.out hsR hsR2; obtain ⟨d0, d1, f0, f1⟩ := blk2 kR2; have e0 := hr2.c0; have e1 := hr2.c1))
          all_goals
            have HF2 := Lib.hid hf2
            have HR2 := Lib.hid hr2
            have K2 := Lib.hid kR2
            clear hf2 kR2 hr2
            go_wp2_with fail
            try rw [Exit.noGoto_ret]
            refine bodyPost_ret (v := .tuple #[.agg #[.string (str st2.ty), .slice p2 st2.ps.length cap2], .int .i64 0]) ?_ rfl ⟨.slice p2 st2.ps.length cap2, by rw [HQ.out]; rfl, by rw [HQ.out]; exact fin1 HR2.out K2.out _ _, ((HB3.out _ HF2.out).setCell (Nat.le_refl _) _).setCell (Nat.le_refl _) _⟩
            rw [results_cell_tmp (p := 2) (u := 3) (ty := 57) rfl]
            have hl := load25 ((K2.out.set (o := 0) (v := .string (str st2.ty)) rfl).set (o := 1) (v := .slice p2 st2.ps.length cap2) rfl)
            simp [asAddr, hl]
        · have hkl : k < s.size := by
            rcases Nat.lt_or_ge k s.size with h | h
            · exact h
            · have h3 : l[k]? = none := List.getElem?_eq_none (by rw [HSZ.out]; exact h)
              rcases HNE.out h3 with h4 | h4
              · exact absurd h4 q0
              · exact absurd h4 q1
          have HN : Hid (Calls Tryz.prog 114 #[.pointer (some ⟨w.heap.size + 1, 0, none⟩), .int .i64 (ck l[k]?)] wr.drew fun e w' => e = .returned (.int .i64 (q : Int)) ∧ RdS w' w1.heap.size (w.heap.size + 1) st2 ∧ Fr w1.heap.size (w.heap.size + 1) wr.drew w') := Lib.hid HM.out
          have HQ : Hid (run q (l.drop (k + 1)) st2 = R) := Lib.hid (by
            have hd := List.drop_eq_getElem_cons (show k < l.length by rw [HSZ.out]; exact hkl)
            rw [HRN.out, if_neg q0, if_neg q1, hd])
          have HI2 : Hid (Inv q st2 ∧ st2.wd.length ≤ k + 1 ∧ st2.ps.length ≤ k + 1) := Lib.hid ⟨HIV.out q0 q1, by have := HST.out.1; have := HI.out.2.1; omega, by have := HST.out.2; have := HI.out.2.2; omega⟩
          have t0 : ((q : Int) == 0) = false := by simp; omega
          have t1 : ((q : Int) == 1) = false := by simp; omega
          clear HM HRN HST HIV HNE HI HRU HRD q0 q1
          go_wp2_with fail
          go_region_held3 (fun _ => True)
          (first
            | trivial)
          (first
            | (go_at_call 80; refine (HBA.out _ _).mono ?_; rintro _ w9 ⟨rfl, hw9⟩; subst w9)
            | (go_at_call 114; refine HN.out.mono ?_; rintro _ w2 ⟨rfl, hr2, hf2⟩))
          all_goals
            have HF2 := Lib.hid (((HFR.out.trans (Fr.of (Below.refl _ _).drew)).trans hf2))
            have HR2 := Lib.hid hr2
            clear hf2 hr2
            go_wp2_with fail
            go_roundg (gk - 1)
            case measure => omega
            case rel => exact ⟨k + 1, q, st2, by omega, rfl, by go_num, by omega, HI2, HQ, HR2, HF2⟩
    · have hlk : (Instr.lookup 119 (.map (some g)) (.int .i64 9) false).run Tryz.prog wr.drew = .ok (.func (.func 115) #[.pointer (some ⟨w.heap.size + 1, 0, none⟩)] #[]) wr.drew := HLK.out wr.drew (HFR.out.block g hg2 (by omega)) 9 (by decide) (by decide)
      have HM := Lib.hid (meth_any (a := 9) (by decide) (by decide) l[k]? st w1.heap.size (w.heap.size + 1) wr.drew HRd.out (by have := HI.out.2.1; omega) (by have := HI.out.2.2; omega) HI.out.1)
      have HRN := Lib.hid (run_eq 9 (l.drop k) st)
      rw [drop_head] at HRN
      have HST := Lib.hid (stp_size 9 l[k]? st)
      have HIV := Lib.hid (stp_inv (c := l[k]?) HI.out.1)
      have HEN := Lib.hid (stp_end HI.out.1)
      have HNE : Hid (l[k]? = none → (stp 9 l[k]? st).1 = 0 ∨ (stp 9 l[k]? st).1 = 1) := Lib.hid (fun e => by rw [e]; exact HEN.out)
      clear HEN
      obtain ⟨r, hr⟩ : ∃ r, stp 9 l[k]? st = r := ⟨_, rfl⟩
      rw [hr] at HM HRN HST HIV HNE
      rw [HRU.out] at HRN
      clear hr
      obtain ⟨q, st2⟩ := r
      simp only at HM HRN HST HIV HNE
      by_cases q0 : q = 0
      · subst q0
        have HN : Hid (Calls Tryz.prog 115 #[.pointer (some ⟨w.heap.size + 1, 0, none⟩), .int .i64 (ck l[k]?)] wr.drew fun e w' => e = .returned (.int .i64 0) ∧ Fr w1.heap.size (w.heap.size + 1) wr.drew w') := Lib.hid (HM.out.mono fun e w' h => ⟨h.1, h.2.2⟩)
        have HQ : Hid (R = none) := Lib.hid (by rw [HRN.out, if_pos rfl])
        clear HM HRN HST HIV HNE HI HRU HRD
        go_wp2_with fail
        go_region_held3 (fun _ => True)
          (first
            | trivial)
          (first
            | (go_at_call 80; refine (HBA.out _ _).mono ?_; rintro _ w9 ⟨rfl, hw9⟩; subst w9)
            | (go_at_call 115; refine HN.out.mono ?_; rintro _ w2 ⟨rfl, hf2⟩; have kR2 := hf2.blk kRd.out hsR hsR2; obtain ⟨d0, d1, f0, f1⟩ := blk2 kR2))
        all_goals
          have HF2 := Lib.hid hf2
          have K2 := Lib.hid kR2
          clear hf2 kR2
          go_wp2_with fail
          try rw [Exit.noGoto_ret]
          refine bodyPost_ret (v := .tuple #[.agg #[.string ⟨#[]⟩, .slice none 0 0], .int .i64 70]) ?_ rfl ⟨.slice none 0 0, by rw [HQ.out]; rfl, by rw [HQ.out]; exact prs_nil _, ((HB3.out _ HF2.out).setCell (Nat.le_refl _) _).setCell (Nat.le_refl _) _⟩
          rw [results_cell_tmp (p := 2) (u := 3) (ty := 57) rfl]
          have hl := load25 ((K2.out.set (o := 0) (v := .string ⟨#[]⟩) rfl).set (o := 1) (v := .slice none 0 0) rfl)
          simp [asAddr, hl]
      · by_cases q1 : q = 1
        · subst q1
          have HN : Hid (Calls Tryz.prog 115 #[.pointer (some ⟨w.heap.size + 1, 0, none⟩), .int .i64 (ck l[k]?)] wr.drew fun e w' => e = .returned (.int .i64 1) ∧ RdS w' w1.heap.size (w.heap.size + 1) st2 ∧ Fr w1.heap.size (w.heap.size + 1) wr.drew w') := Lib.hid HM.out
          have HQ : Hid (R = some (st2.ty, st2.ps)) := Lib.hid (by rw [HRN.out, if_neg (by decide), if_pos rfl])
          clear HM HRN HST HIV HNE HI HRU HRD q0
          go_wp2_with fail
          go_region_held3 (fun _ => True)
          (first
            | trivial)
          (first
            | (go_at_call 80; refine (HBA.out _ _).mono ?_; rintro _ w9 ⟨rfl, hw9⟩; subst w9)
            | (go_at_call 115; refine HN.out.mono ?_; rintro _ w2 ⟨rfl, ⟨u2, v2, hr2⟩, hf2⟩; obtain ⟨p2, cap2, rfl⟩ := hr2.uform; have kR2 := hf2.blk kRd.out hsR hsR2; obtain ⟨d0, d1, f0, f1⟩ := blk2 kR2; have e0 := hr2.c0; have e1 := hr2.c1))
          all_goals
            have HF2 := Lib.hid hf2
            have HR2 := Lib.hid hr2
            have K2 := Lib.hid kR2
            clear hf2 kR2 hr2
            go_wp2_with fail
            try rw [Exit.noGoto_ret]
            refine bodyPost_ret (v := .tuple #[.agg #[.string (str st2.ty), .slice p2 st2.ps.length cap2], .int .i64 0]) ?_ rfl ⟨.slice p2 st2.ps.length cap2, by rw [HQ.out]; rfl, by rw [HQ.out]; exact fin1 HR2.out K2.out _ _, ((HB3.out _ HF2.out).setCell (Nat.le_refl _) _).setCell (Nat.le_refl _) _⟩
            rw [results_cell_tmp (p := 2) (u := 3) (ty := 57) rfl]
            have hl := load25 ((K2.out.set (o := 0) (v := .string (str st2.ty)) rfl).set (o := 1) (v := .slice p2 st2.ps.length cap2) rfl)
            simp [asAddr, hl]
        · have hkl : k < s.size := by
            rcases Nat.lt_or_ge k s.size with h | h
            · exact h
            · have h3 : l[k]? = none := List.getElem?_eq_none (by rw [HSZ.out]; exact h)
              rcases HNE.out h3 with h4 | h4
              · exact absurd h4 q0
              · exact absurd h4 q1
          have HN : Hid (Calls Tryz.prog 115 #[.pointer (some ⟨w.heap.size + 1, 0, none⟩), .int .i64 (ck l[k]?)] wr.drew fun e w' => e = .returned (.int .i64 (q : Int)) ∧ RdS w' w1.heap.size (w.heap.size + 1) st2 ∧ Fr w1.heap.size (w.heap.size + 1) wr.drew w') := Lib.hid HM.out
          have HQ : Hid (run q (l.drop (k + 1)) st2 = R) := Lib.hid (by
            have hd := List.drop_eq_getElem_cons (show k < l.length by rw [HSZ.out]; exact hkl)
            rw [HRN.out, if_neg q0, if_neg q1, hd])
          have HI2 : Hid (Inv q st2 ∧ st2.wd.length ≤ k + 1 ∧ st2.ps.length ≤ k + 1) := Lib.hid ⟨HIV.out q0 q1, by have := HST.out.1; have := HI.out.2.1; omega, by have := HST.out.2; have := HI.out.2.2; omega⟩
          have t0 : ((q : Int) == 0) = false := by simp; omega
          have t1 : ((q : Int) == 1) = false := by simp; omega
          clear HM HRN HST HIV HNE HI HRU HRD q0 q1
          go_wp2_with fail
          go_region_held3 (fun _ => True)
          (first
            | trivial)
          (first
            | (go_at_call 80; refine (HBA.out _ _).mono ?_; rintro _ w9 ⟨rfl, hw9⟩; subst w9)
            | (go_at_call 115; refine HN.out.mono ?_; rintro _ w2 ⟨rfl, hr2, hf2⟩))
          all_goals
            have HF2 := Lib.hid (((HFR.out.trans (Fr.of (Below.refl _ _).drew)).trans hf2))
            have HR2 := Lib.hid hr2
            clear hf2 hr2
            go_wp2_with fail
            go_roundg (gk - 1)
            case measure => omega
            case rel => exact ⟨k + 1, q, st2, by omega, rfl, by go_num, by omega, HI2, HQ, HR2, HF2⟩
    · have hlk : (Instr.lookup 119 (.map (some g)) (.int .i64 10) false).run Tryz.prog wr.drew = .ok (.func (.func 116) #[.pointer (some ⟨w.heap.size + 1, 0, none⟩)] #[]) wr.drew := HLK.out wr.drew (HFR.out.block g hg2 (by omega)) 10 (by decide) (by decide)
      have HM := Lib.hid (meth_any (a := 10) (by decide) (by decide) l[k]? st w1.heap.size (w.heap.size + 1) wr.drew HRd.out (by have := HI.out.2.1; omega) (by have := HI.out.2.2; omega) HI.out.1)
      have HRN := Lib.hid (run_eq 10 (l.drop k) st)
      rw [drop_head] at HRN
      have HST := Lib.hid (stp_size 10 l[k]? st)
      have HIV := Lib.hid (stp_inv (c := l[k]?) HI.out.1)
      have HEN := Lib.hid (stp_end HI.out.1)
      have HNE : Hid (l[k]? = none → (stp 10 l[k]? st).1 = 0 ∨ (stp 10 l[k]? st).1 = 1) := Lib.hid (fun e => by rw [e]; exact HEN.out)
      clear HEN
      obtain ⟨r, hr⟩ : ∃ r, stp 10 l[k]? st = r := ⟨_, rfl⟩
      rw [hr] at HM HRN HST HIV HNE
      rw [HRU.out] at HRN
      clear hr
      obtain ⟨q, st2⟩ := r
      simp only at HM HRN HST HIV HNE
      by_cases q0 : q = 0
      · subst q0
        have HN : Hid (Calls Tryz.prog 116 #[.pointer (some ⟨w.heap.size + 1, 0, none⟩), .int .i64 (ck l[k]?)] wr.drew fun e w' => e = .returned (.int .i64 0) ∧ Fr w1.heap.size (w.heap.size + 1) wr.drew w') := Lib.hid (HM.out.mono fun e w' h => ⟨h.1, h.2.2⟩)
        have HQ : Hid (R = none) := Lib.hid (by rw [HRN.out, if_pos rfl])
        clear HM HRN HST HIV HNE HI HRU HRD
        go_wp2_with fail
        go_region_held3 (fun _ => True)
          (first
            | trivial)
          (first
            | (go_at_call 80; refine (HBA.out _ _).mono ?_; rintro _ w9 ⟨rfl, hw9⟩; subst w9)
            | (go_at_call 116; refine HN.out.mono ?_; rintro _ w2 ⟨rfl, hf2⟩; have kR2 := hf2.blk kRd.out hsR hsR2; obtain ⟨d0, d1, f0, f1⟩ := blk2 kR2))
        all_goals
          have HF2 := Lib.hid hf2
          have K2 := Lib.hid kR2
          clear hf2 kR2
          go_wp2_with fail
          try rw [Exit.noGoto_ret]
          refine bodyPost_ret (v := .tuple #[.agg #[.string ⟨#[]⟩, .slice none 0 0], .int .i64 70]) ?_ rfl ⟨.slice none 0 0, by rw [HQ.out]; rfl, by rw [HQ.out]; exact prs_nil _, ((HB3.out _ HF2.out).setCell (Nat.le_refl _) _).setCell (Nat.le_refl _) _⟩
          rw [results_cell_tmp (p := 2) (u := 3) (ty := 57) rfl]
          have hl := load25 ((K2.out.set (o := 0) (v := .string ⟨#[]⟩) rfl).set (o := 1) (v := .slice none 0 0) rfl)
          simp [asAddr, hl]
      · by_cases q1 : q = 1
        · subst q1
          have HN : Hid (Calls Tryz.prog 116 #[.pointer (some ⟨w.heap.size + 1, 0, none⟩), .int .i64 (ck l[k]?)] wr.drew fun e w' => e = .returned (.int .i64 1) ∧ RdS w' w1.heap.size (w.heap.size + 1) st2 ∧ Fr w1.heap.size (w.heap.size + 1) wr.drew w') := Lib.hid HM.out
          have HQ : Hid (R = some (st2.ty, st2.ps)) := Lib.hid (by rw [HRN.out, if_neg (by decide), if_pos rfl])
          clear HM HRN HST HIV HNE HI HRU HRD q0
          go_wp2_with fail
          go_region_held3 (fun _ => True)
          (first
            | trivial)
          (first
            | (go_at_call 80; refine (HBA.out _ _).mono ?_; rintro _ w9 ⟨rfl, hw9⟩; subst w9)
            | (go_at_call 116; refine HN.out.mono ?_; rintro _ w2 ⟨rfl, ⟨u2, v2, hr2⟩, hf2⟩; obtain ⟨p2, cap2, rfl⟩ := hr2.uform; have kR2 := hf2.blk kRd.out hsR hsR2; obtain ⟨d0, d1, f0, f1⟩ := blk2 kR2; have e0 := hr2.c0; have e1 := hr2.c1))
          all_goals
            have HF2 := Lib.hid hf2
            have HR2 := Lib.hid hr2
            have K2 := Lib.hid kR2
            clear hf2 kR2 hr2
            go_wp2_with fail
            try rw [Exit.noGoto_ret]
            refine bodyPost_ret (v := .tuple #[.agg #[.string (str st2.ty), .slice p2 st2.ps.length cap2], .int .i64 0]) ?_ rfl ⟨.slice p2 st2.ps.length cap2, by rw [HQ.out]; rfl, by rw [HQ.out]; exact fin1 HR2.out K2.out _ _, ((HB3.out _ HF2.out).setCell (Nat.le_refl _) _).setCell (Nat.le_refl _) _⟩
            rw [results_cell_tmp (p := 2) (u := 3) (ty := 57) rfl]
            have hl := load25 ((K2.out.set (o := 0) (v := .string (str st2.ty)) rfl).set (o := 1) (v := .slice p2 st2.ps.length cap2) rfl)
            simp [asAddr, hl]
        · have hkl : k < s.size := by
            rcases Nat.lt_or_ge k s.size with h | h
            · exact h
            · have h3 : l[k]? = none := List.getElem?_eq_none (by rw [HSZ.out]; exact h)
              rcases HNE.out h3 with h4 | h4
              · exact absurd h4 q0
              · exact absurd h4 q1
          have HN : Hid (Calls Tryz.prog 116 #[.pointer (some ⟨w.heap.size + 1, 0, none⟩), .int .i64 (ck l[k]?)] wr.drew fun e w' => e = .returned (.int .i64 (q : Int)) ∧ RdS w' w1.heap.size (w.heap.size + 1) st2 ∧ Fr w1.heap.size (w.heap.size + 1) wr.drew w') := Lib.hid HM.out
          have HQ : Hid (run q (l.drop (k + 1)) st2 = R) := Lib.hid (by
            have hd := List.drop_eq_getElem_cons (show k < l.length by rw [HSZ.out]; exact hkl)
            rw [HRN.out, if_neg q0, if_neg q1, hd])
          have HI2 : Hid (Inv q st2 ∧ st2.wd.length ≤ k + 1 ∧ st2.ps.length ≤ k + 1) := Lib.hid ⟨HIV.out q0 q1, by have := HST.out.1; have := HI.out.2.1; omega, by have := HST.out.2; have := HI.out.2.2; omega⟩
          have t0 : ((q : Int) == 0) = false := by simp; omega
          have t1 : ((q : Int) == 1) = false := by simp; omega
          clear HM HRN HST HIV HNE HI HRU HRD q0 q1
          go_wp2_with fail
          go_region_held3 (fun _ => True)
          (first
            | trivial)
          (first
            | (go_at_call 80; refine (HBA.out _ _).mono ?_; rintro _ w9 ⟨rfl, hw9⟩; subst w9)
            | (go_at_call 116; refine HN.out.mono ?_; rintro _ w2 ⟨rfl, hr2, hf2⟩))
          all_goals
            have HF2 := Lib.hid (((HFR.out.trans (Fr.of (Below.refl _ _).drew)).trans hf2))
            have HR2 := Lib.hid hr2
            clear hf2 hr2
            go_wp2_with fail
            go_roundg (gk - 1)
            case measure => omega
            case rel => exact ⟨k + 1, q, st2, by omega, rfl, by go_num, by omega, HI2, HQ, HR2, HF2⟩
    · have hlk : (Instr.lookup 119 (.map (some g)) (.int .i64 11) false).run Tryz.prog wr.drew = .ok (.func (.func 117) #[.pointer (some ⟨w.heap.size + 1, 0, none⟩)] #[]) wr.drew := HLK.out wr.drew (HFR.out.block g hg2 (by omega)) 11 (by decide) (by decide)
      have HM := Lib.hid (meth_any (a := 11) (by decide) (by decide) l[k]? st w1.heap.size (w.heap.size + 1) wr.drew HRd.out (by have := HI.out.2.1; omega) (by have := HI.out.2.2; omega) HI.out.1)
      have HRN := Lib.hid (run_eq 11 (l.drop k) st)
      rw [drop_head] at HRN
      have HST := Lib.hid (stp_size 11 l[k]? st)
      have HIV := Lib.hid (stp_inv (c := l[k]?) HI.out.1)
      have HEN := Lib.hid (stp_end HI.out.1)
      have HNE : Hid (l[k]? = none → (stp 11 l[k]? st).1 = 0 ∨ (stp 11 l[k]? st).1 = 1) := Lib.hid (fun e => by rw [e]; exact HEN.out)
      clear HEN
      obtain ⟨r, hr⟩ : ∃ r, stp 11 l[k]? st = r := ⟨_, rfl⟩
      rw [hr] at HM HRN HST HIV HNE
      rw [HRU.out] at HRN
      clear hr
      obtain ⟨q, st2⟩ := r
      simp only at HM HRN HST HIV HNE
      by_cases q0 : q = 0
      · subst q0
        have HN : Hid (Calls Tryz.prog 117 #[.pointer (some ⟨w.heap.size + 1, 0, none⟩), .int .i64 (ck l[k]?)] wr.drew fun e w' => e = .returned (.int .i64 0) ∧ Fr w1.heap.size (w.heap.size + 1) wr.drew w') := Lib.hid (HM.out.mono fun e w' h => ⟨h.1, h.2.2⟩)
        have HQ : Hid (R = none) := Lib.hid (by rw [HRN.out, if_pos rfl])
        clear HM HRN HST HIV HNE HI HRU HRD
        go_wp2_with fail
        go_region_held3 (fun _ => True)
          (first
            | trivial)
          (first
            | (go_at_call 80; refine (HBA.out _ _).mono ?_; rintro _ w9 ⟨rfl, hw9⟩; subst w9)
            | (go_at_call 117; refine HN.out.mono ?_; rintro _ w2 ⟨rfl, hf2⟩; have kR2 := hf2.blk kRd.out hsR hsR2; obtain ⟨d0, d1, f0, f1⟩ := blk2 kR2))
        all_goals
          have HF2 := Lib.hid hf2
          have K2 := Lib.hid kR2
          clear hf2 kR2
          go_wp2_with fail
          try rw [Exit.noGoto_ret]
          refine bodyPost_ret (v := .tuple #[.agg #[.string ⟨#[]⟩, .slice none 0 0], .int .i64 70]) ?_ rfl ⟨.slice none 0 0, by rw [HQ.out]; rfl, by rw [HQ.out]; exact prs_nil _, ((HB3.out _ HF2.out).setCell (Nat.le_refl _) _).setCell (Nat.le_refl _) _⟩
          rw [results_cell_tmp (p := 2) (u := 3) (ty := 57) rfl]
          have hl := load25 ((K2.out.set (o := 0) (v := .string ⟨#[]⟩) rfl).set (o := 1) (v := .slice none 0 0) rfl)
          simp [asAddr, hl]
      · by_cases q1 : q = 1
        · subst q1
          have HN : Hid (Calls Tryz.prog 117 #[.pointer (some ⟨w.heap.size + 1, 0, none⟩), .int .i64 (ck l[k]?)] wr.drew fun e w' => e = .returned (.int .i64 1) ∧ RdS w' w1.heap.size (w.heap.size + 1) st2 ∧ Fr w1.heap.size (w.heap.size + 1) wr.drew w') := Lib.hid HM.out
          have HQ : Hid (R = some (st2.ty, st2.ps)) := Lib.hid (by rw [HRN.out, if_neg (by decide), if_pos rfl])
          clear HM HRN HST HIV HNE HI HRU HRD q0
          go_wp2_with fail
          go_region_held3 (fun _ => True)
          (first
            | trivial)
          (first
            | (go_at_call 80; refine (HBA.out _ _).mono ?_; rintro _ w9 ⟨rfl, hw9⟩; subst w9)
            | (go_at_call 117; refine HN.out.mono ?_; rintro _ w2 ⟨rfl, ⟨u2, v2, hr2⟩, hf2⟩; obtain ⟨p2, cap2, rfl⟩ := hr2.uform; have kR2 := hf2.blk kRd.out hsR hsR2; obtain ⟨d0, d1, f0, f1⟩ := blk2 kR2; have e0 := hr2.c0; have e1 := hr2.c1))
          all_goals
            have HF2 := Lib.hid hf2
            have HR2 := Lib.hid hr2
            have K2 := Lib.hid kR2
            clear hf2 kR2 hr2
            go_wp2_with fail
            try rw [Exit.noGoto_ret]
            refine bodyPost_ret (v := .tuple #[.agg #[.string (str st2.ty), .slice p2 st2.ps.length cap2], .int .i64 0]) ?_ rfl ⟨.slice p2 st2.ps.length cap2, by rw [HQ.out]; rfl, by rw [HQ.out]; exact fin1 HR2.out K2.out _ _, ((HB3.out _ HF2.out).setCell (Nat.le_refl _) _).setCell (Nat.le_refl _) _⟩
            rw [results_cell_tmp (p := 2) (u := 3) (ty := 57) rfl]
            have hl := load25 ((K2.out.set (o := 0) (v := .string (str st2.ty)) rfl).set (o := 1) (v := .slice p2 st2.ps.length cap2) rfl)
            simp [asAddr, hl]
        · have hkl : k < s.size := by
            rcases Nat.lt_or_ge k s.size with h | h
            · exact h
            · have h3 : l[k]? = none := List.getElem?_eq_none (by rw [HSZ.out]; exact h)
              rcases HNE.out h3 with h4 | h4
              · exact absurd h4 q0
              · exact absurd h4 q1
          have HN : Hid (Calls Tryz.prog 117 #[.pointer (some ⟨w.heap.size + 1, 0, none⟩), .int .i64 (ck l[k]?)] wr.drew fun e w' => e = .returned (.int .i64 (q : Int)) ∧ RdS w' w1.heap.size (w.heap.size + 1) st2 ∧ Fr w1.heap.size (w.heap.size + 1) wr.drew w') := Lib.hid HM.out
          have HQ : Hid (run q (l.drop (k + 1)) st2 = R) := Lib.hid (by
            have hd := List.drop_eq_getElem_cons (show k < l.length by rw [HSZ.out]; exact hkl)
            rw [HRN.out, if_neg q0, if_neg q1, hd])
          have HI2 : Hid (Inv q st2 ∧ st2.wd.length ≤ k + 1 ∧ st2.ps.length ≤ k + 1) := Lib.hid ⟨HIV.out q0 q1, by have := HST.out.1; have := HI.out.2.1; omega, by have := HST.out.2; have := HI.out.2.2; omega⟩
          have t0 : ((q : Int) == 0) = false := by simp; omega
          have t1 : ((q : Int) == 1) = false := by simp; omega
          clear HM HRN HST HIV HNE HI HRU HRD q0 q1
          go_wp2_with fail
          go_region_held3 (fun _ => True)
          (first
            | trivial)
          (first
            | (go_at_call 80; refine (HBA.out _ _).mono ?_; rintro _ w9 ⟨rfl, hw9⟩; subst w9)
            | (go_at_call 117; refine HN.out.mono ?_; rintro _ w2 ⟨rfl, hr2, hf2⟩))
          all_goals
            have HF2 := Lib.hid (((HFR.out.trans (Fr.of (Below.refl _ _).drew)).trans hf2))
            have HR2 := Lib.hid hr2
            clear hf2 hr2
            go_wp2_with fail
            go_roundg (gk - 1)
            case measure => omega
            case rel => exact ⟨k + 1, q, st2, by omega, rfl, by go_num, by omega, HI2, HQ, HR2, HF2⟩
    · have hlk : (Instr.lookup 119 (.map (some g)) (.int .i64 12) false).run Tryz.prog wr.drew = .ok (.func (.func 118) #[.pointer (some ⟨w.heap.size + 1, 0, none⟩)] #[]) wr.drew := HLK.out wr.drew (HFR.out.block g hg2 (by omega)) 12 (by decide) (by decide)
      have HM := Lib.hid (meth_any (a := 12) (by decide) (by decide) l[k]? st w1.heap.size (w.heap.size + 1) wr.drew HRd.out (by have := HI.out.2.1; omega) (by have := HI.out.2.2; omega) HI.out.1)
      have HRN := Lib.hid (run_eq 12 (l.drop k) st)
      rw [drop_head] at HRN
      have HST := Lib.hid (stp_size 12 l[k]? st)
      have HIV := Lib.hid (stp_inv (c := l[k]?) HI.out.1)
      have HEN := Lib.hid (stp_end HI.out.1)
      have HNE : Hid (l[k]? = none → (stp 12 l[k]? st).1 = 0 ∨ (stp 12 l[k]? st).1 = 1) := Lib.hid (fun e => by rw [e]; exact HEN.out)
      clear HEN
      obtain ⟨r, hr⟩ : ∃ r, stp 12 l[k]? st = r := ⟨_, rfl⟩
      rw [hr] at HM HRN HST HIV HNE
      rw [HRU.out] at HRN
      clear hr
      obtain ⟨q, st2⟩ := r
      simp only at HM HRN HST HIV HNE
      by_cases q0 : q = 0
      · subst q0
        have HN : Hid (Calls Tryz.prog 118 #[.pointer (some ⟨w.heap.size + 1, 0, none⟩), .int .i64 (ck l[k]?)] wr.drew fun e w' => e = .returned (.int .i64 0) ∧ Fr w1.heap.size (w.heap.size + 1) wr.drew w') := Lib.hid (HM.out.mono fun e w' h => ⟨h.1, h.2.2⟩)
        have HQ : Hid (R = none) := Lib.hid (by rw [HRN.out, if_pos rfl])
        clear HM HRN HST HIV HNE HI HRU HRD
        go_wp2_with fail
        go_region_held3 (fun _ => True)
          (first
            | trivial)
          (first
            | (go_at_call 80; refine (HBA.out _ _).mono ?_; rintro _ w9 ⟨rfl, hw9⟩; subst w9)
            | (go_at_call 118; refine HN.out.mono ?_; rintro _ w2 ⟨rfl, hf2⟩; have kR2 := hf2.blk kRd.out hsR hsR2; obtain ⟨d0, d1, f0, f1⟩ := blk2 kR2))
        all_goals
          have HF2 := Lib.hid hf2
          have K2 := Lib.hid kR2
          clear hf2 kR2
          go_wp2_with fail
          try rw [Exit.noGoto_ret]
          refine bodyPost_ret (v := .tuple #[.agg #[.string ⟨#[]⟩, .slice none 0 0], .int .i64 70]) ?_ rfl ⟨.slice none 0 0, by rw [HQ.out]; rfl, by rw [HQ.out]; exact prs_nil _, ((HB3.out _ HF2.out).setCell (Nat.le_refl _) _).setCell (Nat.le_refl _) _⟩
          rw [results_cell_tmp (p := 2) (u := 3) (ty := 57) rfl]
          have hl := load25 ((K2.out.set (o := 0) (v := .string ⟨#[]⟩) rfl).set (o := 1) (v := .slice none 0 0) rfl)
          simp [asAddr, hl]
      · by_cases q1 : q = 1
        · subst q1
          have HN : Hid (Calls Tryz.prog 118 #[.pointer (some ⟨w.heap.size + 1, 0, none⟩), .int .i64 (ck l[k]?)] wr.drew fun e w' => e = .returned (.int .i64 1) ∧ RdS w' w1.heap.size (w.heap.size + 1) st2 ∧ Fr w1.heap.size (w.heap.size + 1) wr.drew w') := Lib.hid HM.out
          have HQ : Hid (R = some (st2.ty, st2.ps)) := Lib.hid (by rw [HRN.out, if_neg (by decide), if_pos rfl])
          clear HM HRN HST HIV HNE HI HRU HRD q0
          go_wp2_with fail
          go_region_held3 (fun _ => True)
          (first
            | trivial)
          (first
            | (go_at_call 80; refine (HBA.out _ _).mono ?_; rintro _ w9 ⟨rfl, hw9⟩; subst w9)
            | (go_at_call 118; refine HN.out.mono ?_; rintro _ w2 ⟨rfl, ⟨u2, v2, hr2⟩, hf2⟩; obtain ⟨p2, cap2, rfl⟩ := hr2.uform; have kR2 := hf2.blk kRd.out hsR hsR2; obtain ⟨d0, d1, f0, f1⟩ := blk2 kR2; have e0 := hr2.c0; have e1 := hr2.c1))
          all_goals
            have HF2 := Lib.hid hf2
            have HR2 := Lib.hid hr2
            have K2 := Lib.hid kR2
            clear hf2 kR2 hr2
            go_wp2_with fail
            try rw [Exit.noGoto_ret]
            refine bodyPost_ret (v := .tuple #[.agg #[.string (str st2.ty), .slice p2 st2.ps.length cap2], .int .i64 0]) ?_ rfl ⟨.slice p2 st2.ps.length cap2, by rw [HQ.out]; rfl, by rw [HQ.out]; exact fin1 HR2.out K2.out _ _, ((HB3.out _ HF2.out).setCell (Nat.le_refl _) _).setCell (Nat.le_refl _) _⟩
            rw [results_cell_tmp (p := 2) (u := 3) (ty := 57) rfl]
            have hl := load25 ((K2.out.set (o := 0) (v := .string (str st2.ty)) rfl).set (o := 1) (v := .slice p2 st2.ps.length cap2) rfl)
            simp [asAddr, hl]
        · have hkl : k < s.size := by
            rcases Nat.lt_or_ge k s.size with h | h
            · exact h
            · have h3 : l[k]? = none := List.getElem?_eq_none (by rw [HSZ.out]; exact h)
              rcases HNE.out h3 with h4 | h4
              · exact absurd h4 q0
              · exact absurd h4 q1
          have HN : Hid (Calls Tryz.prog 118 #[.pointer (some ⟨w.heap.size + 1, 0, none⟩), .int .i64 (ck l[k]?)] wr.drew fun e w' => e = .returned (.int .i64 (q : Int)) ∧ RdS w' w1.heap.size (w.heap.size + 1) st2 ∧ Fr w1.heap.size (w.heap.size + 1) wr.drew w') := Lib.hid HM.out
          have HQ : Hid (run q (l.drop (k + 1)) st2 = R) := Lib.hid (by
            have hd := List.drop_eq_getElem_cons (show k < l.length by rw [HSZ.out]; exact hkl)
            rw [HRN.out, if_neg q0, if_neg q1, hd])
          have HI2 : Hid (Inv q st2 ∧ st2.wd.length ≤ k + 1 ∧ st2.ps.length ≤ k + 1) := Lib.hid ⟨HIV.out q0 q1, by have := HST.out.1; have := HI.out.2.1; omega, by have := HST.out.2; have := HI.out.2.2; omega⟩
          have t0 : ((q : Int) == 0) = false := by simp; omega
          have t1 : ((q : Int) == 1) = false := by simp; omega
          clear HM HRN HST HIV HNE HI HRU HRD q0 q1
          go_wp2_with fail
          go_region_held3 (fun _ => True)
          (first
            | trivial)
          (first
            | (go_at_call 80; refine (HBA.out _ _).mono ?_; rintro _ w9 ⟨rfl, hw9⟩; subst w9)
            | (go_at_call 118; refine HN.out.mono ?_; rintro _ w2 ⟨rfl, hr2, hf2⟩))
          all_goals
            have HF2 := Lib.hid (((HFR.out.trans (Fr.of (Below.refl _ _).drew)).trans hf2))
            have HR2 := Lib.hid hr2
            clear hf2 hr2
            go_wp2_with fail
            go_roundg (gk - 1)
            case measure => omega
            case rel => exact ⟨k + 1, q, st2, by omega, rfl, by go_num, by omega, HI2, HQ, HR2, HF2⟩

end Go.Proofs.YtppabkllconkjaaGreatDoor.Med
