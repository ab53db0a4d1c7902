/- The iterator of parts: its contract. -/
import Derived.Test.YtdkfbikpadehdaaDoorEPH
namespace Go.Proofs.YtdkfbikpadehdaaDoor.Dec
open Go.RowKit
set_option linter.unusedVariables false
set_option linter.unusedSimpArgs false
open Lab (RetS ret_str str str_size str_list str_eta str_inj u8v info5 info_parts)
open Go.Shelf
attribute [local go_sem] Oper.semAt_some
theorem no_fn : ∀ f : FuncId, (none : Option FuncId) = some f → Fence.wide.fn f := fun _ _ => trivial
def encP (p : Prt) : Array Value := #[.string (str p.1), .string (str p.2)]
/-- How much the box still holds. -/
def restLen (w : World) (B : Nat) : Nat := match w.cell? ⟨B, 0, none⟩ with
  | some (.string s) => s.size
  | _ => 0
theorem rest_len {w : World} {B : Nat} {l : List UInt8} (h : Rst w B l) : restLen w B = l.length := by
  unfold restLen
  rw [h.cell]
  exact str_size l
theorem abd_fr {β : Type} {n B : Nat} {J : β → World → Prop} (hJ : Abd 49 n J) {s : β} {w w' : World} {l : List UInt8} (h : J s w) (hr : Rst w B l) (hB : n ≤ B) (hf : Fr w.heap.size B w w') : J s w' :=
  hJ s w w' (some B) h ⟨hf.os, hf.tape, hf.output, hf.size, fun k hk hne => hf.block k hk (fun e => hne (by rw [e]))⟩ (fun r e => by cases e; exact ⟨hB, _, hr⟩)
theorem abd_below {β : Type} {n : Nat} {J : β → World → Prop} (hJ : Abd 49 n J) {s : β} {w w' : World} (h : J s w) (hb : Below w.heap.size w w') : J s w' :=
  hJ s w w' none h ⟨hb.os, hb.tape, hb.output, hb.size, fun k hk _ => hb.block k hk⟩ (fun r e => by cases e)
set_option maxRecDepth 100000 in
set_option maxHeartbeats 4000000 in
theorem parts1_in (n : Nat) (hn : 1 ≤ n) (lp Bs n₀ : Nat) (b : List UInt8) (hs : b.length ≤ maxLen) (hn0 : 0 < n₀) (J Jx : List Prt → World → Prop) (W : World) (hJ : Abd 49 W.heap.size J)
    (hY : ∀ pre x W, J pre W → pre.length < 201 → YieldAt Fence.wide (n - 1) Tryd.prog lp (encP x) W fun e W' =>
      (e = .returned (.bool true) ∧ J (pre ++ [x]) W' ∧ Kq 49 n₀ W W') ∨ (e = .returned (.bool false) ∧ Jx (pre ++ [x]) W'))
    (hm : Mx W) (hnW : n₀ ≤ W.heap.size) (hBs : W.cell? ⟨Bs, 0, none⟩ = some (.string (str b))) (h0 : J [] W) :
    CallsIn Fence.wide n Tryd.prog 25 #[.func (.yield lp) #[] #[], .pointer (some ⟨Bs, 0, none⟩)] W fun e W' => (∃ v, e = .returned v) ∧
      ((∃ ys : List Prt, ys = prts b ∧ J ys W') ∨ (∃ pre : List Prt, (∃ t, prts b = pre ++ t) ∧ Jx pre W')) := by
  have HW : Hid (∀ w, Mx w → Calls Tryd.prog 26 #[.string (str b)] w fun e w' => WiR (inn b) w e w') := Lib.hid fun w h => within_any b w h hs
  have hil := inn_len b
  have hpl := prts_len b
  have HP0 : Hid (prts b = [] ++ pts (inn b)) := Lib.hid (prts_inn b)
  obtain ⟨P, hP⟩ : ∃ P, prts b = P := ⟨_, rfl⟩
  rw [hP] at HP0 hpl ⊢
  clear hP
  obtain ⟨l0, hl0⟩ : ∃ l, inn b = l := ⟨_, rfl⟩
  rw [hl0] at HW HP0 hil
  clear hl0
  unfold WiR at HW
  obtain ⟨s, hs'⟩ : ∃ s, str b = s := ⟨_, rfl⟩
  rw [hs'] at HW hBs
  clear hs' hs
  obtain ⟨S0, hS0⟩ : ∃ S, str l0 = S := ⟨_, rfl⟩
  have HS0 := Lib.hid hS0
  rw [hS0] at HW
  clear hS0
  have HYY := Lib.hid hY
  have HJ := Lib.hid hJ
  have HM := Lib.hid hm
  have H0 := Lib.hid h0
  clear hY hJ hm h0
  refine callsIn_of_wp Tryd.func25 rfl trivial ?_ rfl
  simp only [Tryd.ntmps25, List.size_toArray, List.length_cons, List.length_nil, Nat.reduceAdd, Nat.reduceSub, Array.replicate_succ, Array.replicate_zero, List.push_toArray, List.append_toArray, List.nil_append, List.cons_append]
  gi_wp2_with (refine ⟨trivial, ?_⟩; gi_at_call 26; refine (callsIn_wide.2 (HW.out _ HM.out)).mono ?_; rintro _ w1 ⟨rfl, hb1⟩; clear HW)
  have hB1 : W.heap.size ≤ w1.heap.size := hb1.size
  have HR1 : Hid (Rst (w1.alloc (.cells #[.string S0] 49)) w1.heap.size l0) := Lib.hid (by rw [← HS0.out]; exact Blk.new _ _ _)
  have HJ1 : Hid (J [] (w1.alloc (.cells #[.string S0] 49))) := Lib.hid (abd_below HJ.out (abd_below HJ.out H0.out hb1) ((Below.refl _ _).alloc (Nat.le_refl _) _))
  have HM1 : Hid (Mx (w1.alloc (.cells #[.string S0] 49))) := Lib.hid ((HM.out.next hb1).alloc _)
  obtain ⟨B, hB⟩ : ∃ B, w1.heap.size = B := ⟨_, rfl⟩
  obtain ⟨w2, hw2⟩ : ∃ w2, w1.alloc (.cells #[.string S0] 49) = w2 := ⟨_, rfl⟩
  rw [hw2] at HR1 HJ1 HM1 ⊢
  rw [hB] at HR1 hB1 ⊢
  clear hB hw2 hb1 H0
  gi_loopw [4] (fun q4 wr => ∃ (r : List UInt8) (pre : List Prt), Hid (Rst wr B r) ∧ Hid (J pre wr) ∧ Hid (Mx wr) ∧ Hid (P = pre ++ pts r) ∧ r.length ≤ 200) (fun _ wr => restLen wr B)
  case atStart => exact ⟨l0, [], HR1, HJ1, HM1, HP0, hil⟩
  case round =>
    obtain ⟨r, pre, HR, HJr, HMr, HP, hr7⟩ := hrel
    have HC : Hid (Calls Tryd.prog 27 #[.pointer (some ⟨B, 0, none⟩)] wr fun e w' => PaR (prt r) B wr e w') := Lib.hid (part1_any r B wr HR.out HMr.out (by omega) (by omega))
    have hlen : pre.length < 201 := by
      have := congrArg List.length HP.out
      rw [List.length_append] at this
      omega
    unfold PaR at HC
    cases hv : prt r with
    | none =>
      rw [hv] at HC
      have HE : Hid (P = pre) := Lib.hid (by rw [HP.out, pts_none hv, List.append_nil])
      clear hv
      gi_wp2_with (first
        | (refine ⟨trivial, ?_⟩; gi_at_call 27; refine (callsIn_wide.2 HC.out).mono ?_; rintro _ w3 ⟨rfl, hf3⟩; clear HC)
        | (refine ⟨no_fn, ?_⟩))
      refine bodyPost_ret (results_none rfl _ _ _) rfl ?_
      exact ⟨⟨_, rfl⟩, .inl ⟨_, HE.out.symm, abd_fr HJ.out HJr.out HR.out hB1 hf3⟩⟩
    | some q =>
      obtain ⟨⟨x, v⟩, y⟩ := q
      have hly := prt_len hv
      have HE : Hid (P = (pre ++ [(x, v)]) ++ pts y) := Lib.hid (by rw [HP.out, pts_some hv, List.append_assoc]; rfl)
      rw [hv] at HC
      dsimp only at hly
      have HL := Lib.hid hly
      replace HC : Hid (Calls Tryd.prog 27 #[.pointer (some ⟨B, 0, none⟩)] wr fun e w' => e = .returned (.tuple #[.string (str x), .string (str v), .bool true]) ∧ Rst w' B y ∧ Fr wr.heap.size B wr w') := HC
      clear hv hly
      gi_wp2_with (refine ⟨trivial, ?_⟩; gi_at_call 27; refine (callsIn_wide.2 HC.out).mono ?_; rintro _ w3 ⟨rfl, hr3, hf3⟩; clear HC; have HF3 := Lib.hid hf3; have HR3 := Lib.hid hr3; obtain ⟨fn, tmps, assign, body, hy, hR⟩ := HYY.out _ (x, v) _ (abd_fr HJ.out HJr.out HR.out hB1 hf3) hlen; dsimp only [encP] at hy; clear hf3 hr3)
      refine hR.mono ?_
      rintro e W4 (⟨rfl, hJ4, hk4⟩ | ⟨rfl, hJx4⟩)
      · have HJ4 := Lib.hid hJ4
        have HR4 : Hid (Rst W4 B y) := Lib.hid (hk4.box _ _ HR3.out)
        have HM4 : Hid (Mx W4) := Lib.hid ((HMr.out.fr HF3.out HMr.out.pos (by omega)).below hk4.bel hn0)
        clear hJ4 hk4
        gi_wp2
        go_roundw
        case rel => exact ⟨y, _, HR4, HJ4, HM4, HE, by have := HL.out; omega⟩
        case measure => rw [rest_len HR4.out, rest_len HR.out]; exact HL.out
      · gi_wp2
        refine bodyPost_ret (results_none rfl _ _ _) rfl ?_
        exact ⟨⟨_, rfl⟩, .inr ⟨_, ⟨_, HE.out⟩, hJx4⟩⟩
set_option maxHeartbeats 1000000 in
theorem parts_in (n : Nat) (s : ByteArray) (w : World) :
    CallsIn Fence.wide n Tryd.prog 21 #[.string s] w fun e w' => e = .returned (.func (.func 25) #[] #[.pointer (some ⟨w.heap.size, 0, none⟩)]) ∧ w' = w.alloc (.cells #[.string s] 9) := by
  refine callsIn_of_wp Tryd.func21 rfl trivial ?_ rfl
  simp only [Tryd.ntmps21, List.size_toArray, List.length_cons, List.length_nil, Nat.reduceAdd, Nat.reduceSub, Array.replicate_succ, Array.replicate_zero, List.push_toArray, List.append_toArray, List.nil_append, List.cons_append]
  gi_wp2
  go_ret
  exact ⟨rfl, rfl⟩
theorem parts_seq (n : Nat) (hn : 1 ≤ n) (Bs n₀ : Nat) (b : List UInt8) (hs : b.length ≤ maxLen) (hn0 : 0 < n₀) (w : World) (hm : Mx w) (hBs : Bs < w.heap.size) (hnw : n₀ ≤ w.heap.size) (hc : w.cell? ⟨Bs, 0, none⟩ = some (.string (str b))) :
    SeqBox n Tryd.prog 25 #[.pointer (some ⟨Bs, 0, none⟩)] encP 49 n₀ (fun ys => ys = prts b) (fun pre => ∃ t, prts b = pre ++ t) 201 w := fun l J Jx W hW hJ _ hY h0 =>
  parts1_in n hn l Bs n₀ b hs hn0 J Jx W hJ hY (hm.next hW) (Nat.le_trans hnw hW.size) ((hW.cell (p := ⟨Bs, 0, none⟩) hBs).trans hc) h0
end Go.Proofs.YtdkfbikpadehdaaDoor.Dec
