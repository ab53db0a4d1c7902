/-
  NARROWER THAN 'FOR EVERY INPUT', by the rows' own cells (each row's printed sentence says how): LabelTells: laid · LabelWritten: laid · LabelOnce: laid · LabelTrim: laid.
  DERIVED. THE GIVEN ROWS OF THIS SEAT. 4 by the template 'for every input the law returns true; each argument reads behind the call as it read before'; 0 by the template 'total and deterministic' (their statements: YtfpncdhneikkaaaDoorTotals.lean).
  GIVEN WITH THE SEED: the statements are not yours to turn. If you find one false, say at which input.
  Laid BY PROGRAM, IN A SANDBOX (cutbox-rows.mjs): the forced cells as the released guide's own fill.sh prints them over the translation 9c17931875a29dde… (all of the seat's roots in one cut). By AI agents, Wed Nov 11 2026. No macro, syntax, notation, axiom, sorry.
-/
import Derived.Test.YtfpncdhneikkaaaDoorChecked
import GoSem.Claim
import GoSem.ClaimJoined
import GoSem.ClaimMapViews
import Derived.JoinedTies
import Derived.KernelRfl
namespace Go.Proofs.YtfpncdhneikkaaaDoor
/- THE CELL 'sum', in the pinned program and in every row, IS THE sha256 OF THE DUMP (.gsa) THAT YtfpncdhneikkaaaDoorProg.lean LOADS. Nothing in Lean hashes anything: it is a label: what it is worth is what the hold of that sum in a sandbox is worth. -/
noncomputable def Tryd.pinned : Pinned := { name := "ytfpncdhneikkaaadoor", sum := "9c17931875a29dde1005ecd08cf6d3831596e8aa11d309bae7bd3f248cecbd03", checked := Tryd.checked }
namespace Rows
def none {H : Type} : Left H := { results := [], args := [] }

/- WHAT THE LISTED PACKAGE-LEVEL VARIABLES READ AS WHEN THE CALL BEGINS. Each datum BY PROGRAM (the guide's laid-datum.mjs) off the statement by which the dump's own 'gosem.cut.vars' lays the variable. In a bare row this is a premise. The card (YtfpncdhneikkaaaDoorCards.lean) ties it to the program's text. -/
def laid_carding_label_lists {H : Type} : DataW H := .agg [.slice [.lit (.string [117, 116, 102, 45, 56]), .lit (.string [117, 116, 102, 56]), .lit (.string [117, 110, 105, 99, 111, 100, 101, 45, 49, 45, 49, 45, 117, 116, 102, 45, 56]), .lit (.string [117, 110, 105, 99, 111, 100, 101, 49, 49, 117, 116, 102, 56]), .lit (.string [120, 45, 117, 110, 105, 99, 111, 100, 101, 50, 48, 117, 116, 102, 56])] [], .slice [.lit (.string [117, 116, 102, 45, 49, 54]), .lit (.string [117, 116, 102, 45, 49, 54, 108, 101]), .lit (.string [117, 99, 115, 45, 50]), .lit (.string [105, 115, 111, 45, 49, 48, 54, 52, 54, 45, 117, 99, 115, 45, 50]), .lit (.string [99, 115, 117, 110, 105, 99, 111, 100, 101]), .lit (.string [117, 110, 105, 99, 111, 100, 101]), .lit (.string [117, 110, 105, 99, 111, 100, 101, 102, 101, 102, 102])] [], .slice [.lit (.string [117, 116, 102, 45, 49, 54, 98, 101]), .lit (.string [117, 110, 105, 99, 111, 100, 101, 102, 102, 102, 101])] [], .slice [.lit (.string [119, 105, 110, 100, 111, 119, 115, 45, 49, 50, 53, 50]), .lit (.string [99, 112, 49, 50, 53, 50]), .lit (.string [120, 45, 99, 112, 49, 50, 53, 50]), .lit (.string [97, 115, 99, 105, 105]), .lit (.string [117, 115, 45, 97, 115, 99, 105, 105]), .lit (.string [97, 110, 115, 105, 95, 120, 51, 46, 52, 45, 49, 57, 54, 56]), .lit (.string [105, 115, 111, 45, 56, 56, 53, 57, 45, 49]), .lit (.string [105, 115, 111, 56, 56, 53, 57, 45, 49]), .lit (.string [105, 115, 111, 95, 56, 56, 53, 57, 45, 49]), .lit (.string [105, 115, 111, 56, 56, 53, 57, 49]), .lit (.string [108, 97, 116, 105, 110, 49]), .lit (.string [108, 49]), .lit (.string [99, 112, 56, 49, 57]), .lit (.string [105, 98, 109, 56, 49, 57]), .lit (.string [99, 115, 105, 115, 111, 108, 97, 116, 105, 110, 49])] [], .slice [.lit (.string [105, 115, 111, 45, 56, 56, 53, 57, 45, 53]), .lit (.string [105, 115, 111, 56, 56, 53, 57, 45, 53]), .lit (.string [105, 115, 111, 95, 56, 56, 53, 57, 45, 53]), .lit (.string [105, 115, 111, 56, 56, 53, 57, 53]), .lit (.string [99, 121, 114, 105, 108, 108, 105, 99]), .lit (.string [99, 115, 105, 115, 111, 108, 97, 116, 105, 110, 99, 121, 114, 105, 108, 108, 105, 99])] [], .slice [.lit (.string [105, 115, 111, 45, 56, 56, 53, 57, 45, 49, 53]), .lit (.string [105, 115, 111, 56, 56, 53, 57, 45, 49, 53]), .lit (.string [105, 115, 111, 95, 56, 56, 53, 57, 45, 49, 53]), .lit (.string [105, 115, 111, 56, 56, 53, 57, 49, 53]), .lit (.string [108, 57]), .lit (.string [99, 115, 105, 115, 111, 108, 97, 116, 105, 110, 57])] []]

/-- 'cardinglaw05.LabelTells': WHATEVER THE INPUT: true; the input reads as it did. -/
def labelTellsSpec : ChangeSpec := { name := "labelTells", fn := fun _ => fun
  | [d1, d2] => { results := [.lit (.bool true)], args := [d1, d2] }
  | _ => none }
def labelTellsRow : OpenClaim := { program := "ytfpncdhneikkaaadoor", sum := "9c17931875a29dde1005ecd08cf6d3831596e8aa11d309bae7bd3f248cecbd03", func := "carding/cardinglaw05.LabelTells", spec := "labelTells", inPlace := ["internal/bytealg.IndexByteString"], unfollowed := true, recurses := true, named := ["carding/label.lists"], apart := false, laid := [("carding/label.lists", laid_carding_label_lists)] }
def LabelTellsSaid : Prop := labelTellsRow.holds Tryd.pinned (OpenSpec.ofChange labelTellsSpec)

/-- ITS FALSE NEIGHBOUR: 'it returns false'. Refute it at one input. -/
def labelTellsWrong : ChangeSpec := { name := "labelTells", fn := fun _ => fun
  | [d1, d2] => { results := [.lit (.bool false)], args := [d1, d2] }
  | _ => none }
def LabelTellsWrongFalsely : Prop := labelTellsRow.holds Tryd.pinned (OpenSpec.ofChange labelTellsWrong)

/-- 'cardinglaw05.LabelWritten': WHATEVER THE INPUT: true; the input reads as it did. -/
def labelWrittenSpec : ChangeSpec := { name := "labelWritten", fn := fun _ => fun
  | [d1, d2, d3, d4, d5] => { results := [.lit (.bool true)], args := [d1, d2, d3, d4, d5] }
  | _ => none }
def labelWrittenRow : OpenClaim := { program := "ytfpncdhneikkaaadoor", sum := "9c17931875a29dde1005ecd08cf6d3831596e8aa11d309bae7bd3f248cecbd03", func := "carding/cardinglaw05.LabelWritten", spec := "labelWritten", inPlace := ["internal/bytealg.IndexByteString"], unfollowed := true, recurses := true, named := ["carding/label.lists"], apart := false, laid := [("carding/label.lists", laid_carding_label_lists)] }
def LabelWrittenSaid : Prop := labelWrittenRow.holds Tryd.pinned (OpenSpec.ofChange labelWrittenSpec)

/-- ITS FALSE NEIGHBOUR: 'it returns false'. Refute it at one input. -/
def labelWrittenWrong : ChangeSpec := { name := "labelWritten", fn := fun _ => fun
  | [d1, d2, d3, d4, d5] => { results := [.lit (.bool false)], args := [d1, d2, d3, d4, d5] }
  | _ => none }
def LabelWrittenWrongFalsely : Prop := labelWrittenRow.holds Tryd.pinned (OpenSpec.ofChange labelWrittenWrong)

/-- 'cardinglaw05.LabelOnce': WHATEVER THE INPUT: true; the input reads as it did. -/
def labelOnceSpec : ChangeSpec := { name := "labelOnce", fn := fun _ => fun
  | [d1, d2] => { results := [.lit (.bool true)], args := [d1, d2] }
  | _ => none }
def labelOnceRow : OpenClaim := { program := "ytfpncdhneikkaaadoor", sum := "9c17931875a29dde1005ecd08cf6d3831596e8aa11d309bae7bd3f248cecbd03", func := "carding/cardinglaw05.LabelOnce", spec := "labelOnce", inPlace := ["internal/bytealg.IndexByteString"], unfollowed := true, recurses := true, named := ["carding/label.lists"], apart := false, laid := [("carding/label.lists", laid_carding_label_lists)] }
def LabelOnceSaid : Prop := labelOnceRow.holds Tryd.pinned (OpenSpec.ofChange labelOnceSpec)

/-- ITS FALSE NEIGHBOUR: 'it returns false'. Refute it at one input. -/
def labelOnceWrong : ChangeSpec := { name := "labelOnce", fn := fun _ => fun
  | [d1, d2] => { results := [.lit (.bool false)], args := [d1, d2] }
  | _ => none }
def LabelOnceWrongFalsely : Prop := labelOnceRow.holds Tryd.pinned (OpenSpec.ofChange labelOnceWrong)

/-- 'cardinglaw05.LabelTrim': WHATEVER THE INPUT: true; the input reads as it did. -/
def labelTrimSpec : ChangeSpec := { name := "labelTrim", fn := fun _ => fun
  | [d] => { results := [.lit (.bool true)], args := [d] }
  | _ => none }
def labelTrimRow : OpenClaim := { program := "ytfpncdhneikkaaadoor", sum := "9c17931875a29dde1005ecd08cf6d3831596e8aa11d309bae7bd3f248cecbd03", func := "carding/cardinglaw05.LabelTrim", spec := "labelTrim", inPlace := ["internal/bytealg.IndexByteString"], unfollowed := true, recurses := true, named := ["carding/label.lists"], apart := false, laid := [("carding/label.lists", laid_carding_label_lists)] }
def LabelTrimSaid : Prop := labelTrimRow.holds Tryd.pinned (OpenSpec.ofChange labelTrimSpec)

/-- ITS FALSE NEIGHBOUR: 'it returns false'. Refute it at one input. -/
def labelTrimWrong : ChangeSpec := { name := "labelTrim", fn := fun _ => fun
  | [d] => { results := [.lit (.bool false)], args := [d] }
  | _ => none }
def LabelTrimWrongFalsely : Prop := labelTrimRow.holds Tryd.pinned (OpenSpec.ofChange labelTrimWrong)

/- THE SECOND FORM. 'bulk': how many values and letters a reading holds, each counted each time it is reached (what is shared counts as often as it is met; a slice's spare places count too). A statement '..UptoSaid' is the law's where the arguments, and the package variables that the reading takes, are together of bulk at most 1048576: NARROWER than '..Said'. Prove '..Said' where nothing that the law and all that it calls make is longer than what came in: it says more and counts as full. Else prove '..UptoSaid'. A law counts once. -/
mutual
def uptoBulk {H : Type} : DataW H → Nat
  | .lit (.string bytes) => bytes.length + 1
  | .lit _ => 1
  | .nil => 1
  | .ptr d => uptoBulk d + 1
  | .slice elems spare => uptoBulkAll elems + uptoBulkAll spare + 1
  | .agg parts => uptoBulkAll parts + 1
  | .iface _ d => uptoBulk d + 1
  | .map entries => uptoBulkEntries entries + 1
  | .held _ => 1
def uptoBulkAll {H : Type} : List (DataW H) → Nat
  | [] => 0
  | d :: r => uptoBulk d + uptoBulkAll r
def uptoBulkEntries {H : Type} : List (Lit × DataW H) → Nat
  | [] => 0
  | x :: r => uptoBulkEntry x + uptoBulkEntries r
def uptoBulkEntry {H : Type} : Lit × DataW H → Nat
  | (.string bytes, d) => bytes.length + uptoBulk d + 1
  | (_, d) => uptoBulk d + 1
 end
def uptoSmall : (H : Type) → List (DataW H) → Bool := fun _ ds => decide (uptoBulkAll ds ≤ 1048576)
def OpenSpec.upto (s : _root_.Go.ChangeSpec) : _root_.Go.OpenSpec := { _root_.Go.OpenSpec.ofChange s with cond := some uptoSmall }

/-- 'cardinglaw05.LabelTells', WHERE WHAT IT READS IS OF BULK AT MOST 1048576: true; the input reads as it did. -/
def labelTellsUptoRow : OpenClaim := { program := "ytfpncdhneikkaaadoor", sum := "9c17931875a29dde1005ecd08cf6d3831596e8aa11d309bae7bd3f248cecbd03", func := "carding/cardinglaw05.LabelTells", spec := "labelTells", inPlace := ["internal/bytealg.IndexByteString"], unfollowed := true, recurses := true, named := ["carding/label.lists"], apart := false, laid := [("carding/label.lists", laid_carding_label_lists)], narrowed := true }
def LabelTellsUptoSaid : Prop := labelTellsUptoRow.holds Tryd.pinned (OpenSpec.upto labelTellsSpec)

/-- 'cardinglaw05.LabelWritten', WHERE WHAT IT READS IS OF BULK AT MOST 1048576: true; the input reads as it did. -/
def labelWrittenUptoRow : OpenClaim := { program := "ytfpncdhneikkaaadoor", sum := "9c17931875a29dde1005ecd08cf6d3831596e8aa11d309bae7bd3f248cecbd03", func := "carding/cardinglaw05.LabelWritten", spec := "labelWritten", inPlace := ["internal/bytealg.IndexByteString"], unfollowed := true, recurses := true, named := ["carding/label.lists"], apart := false, laid := [("carding/label.lists", laid_carding_label_lists)], narrowed := true }
def LabelWrittenUptoSaid : Prop := labelWrittenUptoRow.holds Tryd.pinned (OpenSpec.upto labelWrittenSpec)

/-- 'cardinglaw05.LabelOnce', WHERE WHAT IT READS IS OF BULK AT MOST 1048576: true; the input reads as it did. -/
def labelOnceUptoRow : OpenClaim := { program := "ytfpncdhneikkaaadoor", sum := "9c17931875a29dde1005ecd08cf6d3831596e8aa11d309bae7bd3f248cecbd03", func := "carding/cardinglaw05.LabelOnce", spec := "labelOnce", inPlace := ["internal/bytealg.IndexByteString"], unfollowed := true, recurses := true, named := ["carding/label.lists"], apart := false, laid := [("carding/label.lists", laid_carding_label_lists)], narrowed := true }
def LabelOnceUptoSaid : Prop := labelOnceUptoRow.holds Tryd.pinned (OpenSpec.upto labelOnceSpec)

/-- 'cardinglaw05.LabelTrim', WHERE WHAT IT READS IS OF BULK AT MOST 1048576: true; the input reads as it did. -/
def labelTrimUptoRow : OpenClaim := { program := "ytfpncdhneikkaaadoor", sum := "9c17931875a29dde1005ecd08cf6d3831596e8aa11d309bae7bd3f248cecbd03", func := "carding/cardinglaw05.LabelTrim", spec := "labelTrim", inPlace := ["internal/bytealg.IndexByteString"], unfollowed := true, recurses := true, named := ["carding/label.lists"], apart := false, laid := [("carding/label.lists", laid_carding_label_lists)], narrowed := true }
def LabelTrimUptoSaid : Prop := labelTrimUptoRow.holds Tryd.pinned (OpenSpec.upto labelTrimSpec)

end Rows
end Go.Proofs.YtfpncdhneikkaaaDoor
