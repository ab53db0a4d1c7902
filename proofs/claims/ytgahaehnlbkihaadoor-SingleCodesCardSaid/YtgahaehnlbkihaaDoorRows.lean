/-
  NARROWER THAN 'FOR EVERY INPUT', by the rows' own cells (each row's printed sentence says how): SingleCodes: laid · SingleBack: laid.
  DERIVED. THE GIVEN ROWS OF THIS SEAT. 2 by the template 'for every input the law returns true; each argument reads behind the call as it read before'; 0 by the template 'total and deterministic' (their statements: YtgahaehnlbkihaaDoorTotals.lean).
  GIVEN WITH THE SEED: the statements are not yours to turn. If you find one false, say at which input.
  Laid BY PROGRAM, IN A SANDBOX (cutbox-rows.mjs): the forced cells as the released guide's own fill.sh prints them over the translation e11b7512b5a6d315… (all of the seat's roots in one cut). By AI agents, Wed Nov 11 2026. No macro, syntax, notation, axiom, sorry.
-/
import Derived.Test.YtgahaehnlbkihaaDoorChecked
import GoSem.Claim
import GoSem.ClaimJoined
import GoSem.ClaimMapViews
import Derived.JoinedTies
import Derived.KernelRfl
namespace Go.Proofs.YtgahaehnlbkihaaDoor
/- THE CELL 'sum', in the pinned program and in every row, IS THE sha256 OF THE DUMP (.gsa) THAT YtgahaehnlbkihaaDoorProg.lean LOADS. Nothing in Lean hashes anything: it is a label: what it is worth is what the hold of that sum in a sandbox is worth. -/
noncomputable def Tryd.pinned : Pinned := { name := "ytgahaehnlbkihaadoor", sum := "e11b7512b5a6d31506f31d45ce3c0c618d41d76fb5613beecd44f3e965cc52d2", checked := Tryd.checked }
namespace Rows
def none {H : Type} : Left H := { results := [], args := [] }

/- WHAT THE LISTED PACKAGE-LEVEL VARIABLES READ AS WHEN THE CALL BEGINS. Each datum BY PROGRAM (the guide's laid-datum.mjs) off the statement by which the dump's own 'gosem.cut.vars' lays the variable. In a bare row this is a premise. The card (YtgahaehnlbkihaaDoorCards.lean) ties it to the program's text. -/
def laid_carding_utf8_limits {H : Type} : DataW H := .agg [.lit (.int .i64 0), .lit (.int .i64 128), .lit (.int .i64 2048), .lit (.int .i64 65536), .lit (.int .i64 1114112)]
def laid_carding_utf8_marks {H : Type} : DataW H := .agg [.lit (.int .u8 0), .lit (.int .u8 0), .lit (.int .u8 192), .lit (.int .u8 224), .lit (.int .u8 240)]
def laid_carding_utf8_lengths {H : Type} : DataW H := .agg [.lit (.int .i64 1), .lit (.int .i64 1), .lit (.int .i64 1), .lit (.int .i64 1), .lit (.int .i64 1), .lit (.int .i64 1), .lit (.int .i64 1), .lit (.int .i64 1), .lit (.int .i64 1), .lit (.int .i64 1), .lit (.int .i64 1), .lit (.int .i64 1), .lit (.int .i64 2), .lit (.int .i64 2), .lit (.int .i64 3), .lit (.int .i64 4)]

/-- 'cardinglaw04.SingleCodes': WHATEVER THE INPUT: true; the input reads as it did. -/
def singleCodesSpec : ChangeSpec := { name := "singleCodes", fn := fun _ => fun
  | [d1, d2, d3] => { results := [.lit (.bool true)], args := [d1, d2, d3] }
  | _ => none }
def singleCodesRow : OpenClaim := { program := "ytgahaehnlbkihaadoor", sum := "e11b7512b5a6d31506f31d45ce3c0c618d41d76fb5613beecd44f3e965cc52d2", func := "carding/cardinglaw04.SingleCodes", spec := "singleCodes", unfollowed := true, recurses := true, named := ["carding/utf8.limits", "carding/utf8.marks", "carding/utf8.lengths"], apart := false, laid := [("carding/utf8.limits", laid_carding_utf8_limits), ("carding/utf8.marks", laid_carding_utf8_marks), ("carding/utf8.lengths", laid_carding_utf8_lengths)] }
def SingleCodesSaid : Prop := singleCodesRow.holds Tryd.pinned (OpenSpec.ofChange singleCodesSpec)

/-- ITS FALSE NEIGHBOUR: 'it returns false'. Refute it at one input. -/
def singleCodesWrong : ChangeSpec := { name := "singleCodes", fn := fun _ => fun
  | [d1, d2, d3] => { results := [.lit (.bool false)], args := [d1, d2, d3] }
  | _ => none }
def SingleCodesWrongFalsely : Prop := singleCodesRow.holds Tryd.pinned (OpenSpec.ofChange singleCodesWrong)

/-- 'cardinglaw04.SingleBack': WHATEVER THE INPUT: true; the input reads as it did. -/
def singleBackSpec : ChangeSpec := { name := "singleBack", fn := fun _ => fun
  | [d] => { results := [.lit (.bool true)], args := [d] }
  | _ => none }
def singleBackRow : OpenClaim := { program := "ytgahaehnlbkihaadoor", sum := "e11b7512b5a6d31506f31d45ce3c0c618d41d76fb5613beecd44f3e965cc52d2", func := "carding/cardinglaw04.SingleBack", spec := "singleBack", unfollowed := true, recurses := true, named := ["carding/utf8.limits", "carding/utf8.marks", "carding/utf8.lengths"], apart := false, laid := [("carding/utf8.limits", laid_carding_utf8_limits), ("carding/utf8.marks", laid_carding_utf8_marks), ("carding/utf8.lengths", laid_carding_utf8_lengths)] }
def SingleBackSaid : Prop := singleBackRow.holds Tryd.pinned (OpenSpec.ofChange singleBackSpec)

/-- ITS FALSE NEIGHBOUR: 'it returns false'. Refute it at one input. -/
def singleBackWrong : ChangeSpec := { name := "singleBack", fn := fun _ => fun
  | [d] => { results := [.lit (.bool false)], args := [d] }
  | _ => none }
def SingleBackWrongFalsely : Prop := singleBackRow.holds Tryd.pinned (OpenSpec.ofChange singleBackWrong)

/- THE SECOND FORM. 'bulk': how many values and letters a reading holds, each counted each time it is reached (what is shared counts as often as it is met; a slice's spare places count too). A statement '..UptoSaid' is the law's where the arguments, and the package variables that the reading takes, are together of bulk at most 1048576: NARROWER than '..Said'. Prove '..Said' where nothing that the law and all that it calls make is longer than what came in: it says more and counts as full. Else prove '..UptoSaid'. A law counts once. -/
mutual
def uptoBulk {H : Type} : DataW H → Nat
  | .lit (.string bytes) => bytes.length + 1
  | .lit _ => 1
  | .nil => 1
  | .ptr d => uptoBulk d + 1
  | .slice elems spare => uptoBulkAll elems + uptoBulkAll spare + 1
  | .agg parts => uptoBulkAll parts + 1
  | .iface _ d => uptoBulk d + 1
  | .map entries => uptoBulkEntries entries + 1
  | .held _ => 1
def uptoBulkAll {H : Type} : List (DataW H) → Nat
  | [] => 0
  | d :: r => uptoBulk d + uptoBulkAll r
def uptoBulkEntries {H : Type} : List (Lit × DataW H) → Nat
  | [] => 0
  | x :: r => uptoBulkEntry x + uptoBulkEntries r
def uptoBulkEntry {H : Type} : Lit × DataW H → Nat
  | (.string bytes, d) => bytes.length + uptoBulk d + 1
  | (_, d) => uptoBulk d + 1
 end
def uptoSmall : (H : Type) → List (DataW H) → Bool := fun _ ds => decide (uptoBulkAll ds ≤ 1048576)
def OpenSpec.upto (s : _root_.Go.ChangeSpec) : _root_.Go.OpenSpec := { _root_.Go.OpenSpec.ofChange s with cond := some uptoSmall }

/-- 'cardinglaw04.SingleCodes', WHERE WHAT IT READS IS OF BULK AT MOST 1048576: true; the input reads as it did. -/
def singleCodesUptoRow : OpenClaim := { program := "ytgahaehnlbkihaadoor", sum := "e11b7512b5a6d31506f31d45ce3c0c618d41d76fb5613beecd44f3e965cc52d2", func := "carding/cardinglaw04.SingleCodes", spec := "singleCodes", unfollowed := true, recurses := true, named := ["carding/utf8.limits", "carding/utf8.marks", "carding/utf8.lengths"], apart := false, laid := [("carding/utf8.limits", laid_carding_utf8_limits), ("carding/utf8.marks", laid_carding_utf8_marks), ("carding/utf8.lengths", laid_carding_utf8_lengths)], narrowed := true }
def SingleCodesUptoSaid : Prop := singleCodesUptoRow.holds Tryd.pinned (OpenSpec.upto singleCodesSpec)

/-- 'cardinglaw04.SingleBack', WHERE WHAT IT READS IS OF BULK AT MOST 1048576: true; the input reads as it did. -/
def singleBackUptoRow : OpenClaim := { program := "ytgahaehnlbkihaadoor", sum := "e11b7512b5a6d31506f31d45ce3c0c618d41d76fb5613beecd44f3e965cc52d2", func := "carding/cardinglaw04.SingleBack", spec := "singleBack", unfollowed := true, recurses := true, named := ["carding/utf8.limits", "carding/utf8.marks", "carding/utf8.lengths"], apart := false, laid := [("carding/utf8.limits", laid_carding_utf8_limits), ("carding/utf8.marks", laid_carding_utf8_marks), ("carding/utf8.lengths", laid_carding_utf8_lengths)], narrowed := true }
def SingleBackUptoSaid : Prop := singleBackUptoRow.holds Tryd.pinned (OpenSpec.upto singleBackSpec)

end Rows
end Go.Proofs.YtgahaehnlbkihaaDoor
