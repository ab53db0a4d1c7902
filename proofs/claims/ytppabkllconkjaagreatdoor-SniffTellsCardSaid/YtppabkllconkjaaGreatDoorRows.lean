/-
  NARROWER THAN 'FOR EVERY INPUT', by the rows' own cells (each row's printed sentence says how): SniffTells: laid · SniffCodes: laid · SniffBack: laid · SniffOrder: laid.
  DERIVED. THE GIVEN ROWS OF THIS SEAT. 4 by the template 'for every input the law returns true; each argument reads behind the call as it read before'; 0 by the template 'total and deterministic' (their statements: YtppabkllconkjaaGreatDoorTotals.lean).
  GIVEN WITH THE SEED: the statements are not yours to turn. If you find one false, say at which input.
  Laid BY PROGRAM, IN A SANDBOX (cutbox-rows.mjs): the forced cells as the released guide's own fill.sh prints them over the translation 9ea89158182bbc27… (all of the seat's roots in one cut). By AI agents, Wed Nov 11 2026. No macro, syntax, notation, axiom, sorry.
-/
import Derived.Test.YtppabkllconkjaaGreatDoorChecked
import GoSem.PinnedTables
import GoSem.Claim
import GoSem.ClaimJoined
import GoSem.ClaimMapViews
import Derived.JoinedTies
import Derived.KernelRfl
namespace Go.Proofs.YtppabkllconkjaaGreatDoor
/- THE CELL 'sum', in the pinned program and in every row, IS THE sha256 OF THE DUMP (.gsa) THAT YtppabkllconkjaaGreatDoorProg.lean LOADS. Nothing in Lean hashes anything: it is a label: what it is worth is what the hold of that sum in a sandbox is worth. -/
noncomputable def Tryz.pinned : Pinned := { name := "ytppabkllconkjaagreatdoor", sum := "9ea89158182bbc27e47f669377d25a73c75a322f3b80ad899a1a21732afd4d93", checked := Tryz.checked }
namespace Rows
def none {H : Type} : Left H := { results := [], args := [] }

/- WHAT THE LISTED PACKAGE-LEVEL VARIABLES READ AS WHEN THE CALL BEGINS. Each datum BY PROGRAM (the guide's laid-datum.mjs) off the statement by which the dump's own 'gosem.cut.vars' lays the variable. In a bare row this is a premise. The card (YtppabkllconkjaaGreatDoorCards.lean) ties it to the program's text. -/
def laid_unicode_utf8_acceptRanges {H : Type} : DataW H := .agg [.agg [.lit (.int .u8 128), .lit (.int .u8 191)], .agg [.lit (.int .u8 160), .lit (.int .u8 191)], .agg [.lit (.int .u8 128), .lit (.int .u8 159)], .agg [.lit (.int .u8 144), .lit (.int .u8 191)], .agg [.lit (.int .u8 128), .lit (.int .u8 143)], .agg [.lit (.int .u8 0), .lit (.int .u8 0)], .agg [.lit (.int .u8 0), .lit (.int .u8 0)], .agg [.lit (.int .u8 0), .lit (.int .u8 0)], .agg [.lit (.int .u8 0), .lit (.int .u8 0)], .agg [.lit (.int .u8 0), .lit (.int .u8 0)], .agg [.lit (.int .u8 0), .lit (.int .u8 0)], .agg [.lit (.int .u8 0), .lit (.int .u8 0)], .agg [.lit (.int .u8 0), .lit (.int .u8 0)], .agg [.lit (.int .u8 0), .lit (.int .u8 0)], .agg [.lit (.int .u8 0), .lit (.int .u8 0)], .agg [.lit (.int .u8 0), .lit (.int .u8 0)]]
def laid_carding_utf8_limits {H : Type} : DataW H := .agg [.lit (.int .i64 0), .lit (.int .i64 128), .lit (.int .i64 2048), .lit (.int .i64 65536), .lit (.int .i64 1114112)]
def laid_carding_utf8_marks {H : Type} : DataW H := .agg [.lit (.int .u8 0), .lit (.int .u8 0), .lit (.int .u8 192), .lit (.int .u8 224), .lit (.int .u8 240)]
def laid_carding_utf8_lengths {H : Type} : DataW H := .agg [.lit (.int .i64 1), .lit (.int .i64 1), .lit (.int .i64 1), .lit (.int .i64 1), .lit (.int .i64 1), .lit (.int .i64 1), .lit (.int .i64 1), .lit (.int .i64 1), .lit (.int .i64 1), .lit (.int .i64 1), .lit (.int .i64 1), .lit (.int .i64 1), .lit (.int .i64 2), .lit (.int .i64 2), .lit (.int .i64 3), .lit (.int .i64 4)]
def laid_carding_label_lists {H : Type} : DataW H := .agg [.slice [.lit (.string [117, 116, 102, 45, 56]), .lit (.string [117, 116, 102, 56]), .lit (.string [117, 110, 105, 99, 111, 100, 101, 45, 49, 45, 49, 45, 117, 116, 102, 45, 56]), .lit (.string [117, 110, 105, 99, 111, 100, 101, 49, 49, 117, 116, 102, 56]), .lit (.string [120, 45, 117, 110, 105, 99, 111, 100, 101, 50, 48, 117, 116, 102, 56])] [], .slice [.lit (.string [117, 116, 102, 45, 49, 54]), .lit (.string [117, 116, 102, 45, 49, 54, 108, 101]), .lit (.string [117, 99, 115, 45, 50]), .lit (.string [105, 115, 111, 45, 49, 48, 54, 52, 54, 45, 117, 99, 115, 45, 50]), .lit (.string [99, 115, 117, 110, 105, 99, 111, 100, 101]), .lit (.string [117, 110, 105, 99, 111, 100, 101]), .lit (.string [117, 110, 105, 99, 111, 100, 101, 102, 101, 102, 102])] [], .slice [.lit (.string [117, 116, 102, 45, 49, 54, 98, 101]), .lit (.string [117, 110, 105, 99, 111, 100, 101, 102, 102, 102, 101])] [], .slice [.lit (.string [119, 105, 110, 100, 111, 119, 115, 45, 49, 50, 53, 50]), .lit (.string [99, 112, 49, 50, 53, 50]), .lit (.string [120, 45, 99, 112, 49, 50, 53, 50]), .lit (.string [97, 115, 99, 105, 105]), .lit (.string [117, 115, 45, 97, 115, 99, 105, 105]), .lit (.string [97, 110, 115, 105, 95, 120, 51, 46, 52, 45, 49, 57, 54, 56]), .lit (.string [105, 115, 111, 45, 56, 56, 53, 57, 45, 49]), .lit (.string [105, 115, 111, 56, 56, 53, 57, 45, 49]), .lit (.string [105, 115, 111, 95, 56, 56, 53, 57, 45, 49]), .lit (.string [105, 115, 111, 56, 56, 53, 57, 49]), .lit (.string [108, 97, 116, 105, 110, 49]), .lit (.string [108, 49]), .lit (.string [99, 112, 56, 49, 57]), .lit (.string [105, 98, 109, 56, 49, 57]), .lit (.string [99, 115, 105, 115, 111, 108, 97, 116, 105, 110, 49])] [], .slice [.lit (.string [105, 115, 111, 45, 56, 56, 53, 57, 45, 53]), .lit (.string [105, 115, 111, 56, 56, 53, 57, 45, 53]), .lit (.string [105, 115, 111, 95, 56, 56, 53, 57, 45, 53]), .lit (.string [105, 115, 111, 56, 56, 53, 57, 53]), .lit (.string [99, 121, 114, 105, 108, 108, 105, 99]), .lit (.string [99, 115, 105, 115, 111, 108, 97, 116, 105, 110, 99, 121, 114, 105, 108, 108, 105, 99])] [], .slice [.lit (.string [105, 115, 111, 45, 56, 56, 53, 57, 45, 49, 53]), .lit (.string [105, 115, 111, 56, 56, 53, 57, 45, 49, 53]), .lit (.string [105, 115, 111, 95, 56, 56, 53, 57, 45, 49, 53]), .lit (.string [105, 115, 111, 56, 56, 53, 57, 49, 53]), .lit (.string [108, 57]), .lit (.string [99, 115, 105, 115, 111, 108, 97, 116, 105, 110, 57])] []]
/-- One of Go's own tables, pinned by name: the form's constant. -/
def laid_unicode_utf8_first : DataW Unit := Go.Pinned.utf8First

/-- 'cardinglaw08.SniffTells': WHATEVER THE INPUT: true; the input reads as it did. -/
def sniffTellsSpec : ChangeSpec := { name := "sniffTells", fn := fun _ => fun
  | [d1, d2] => { results := [.lit (.bool true)], args := [d1, d2] }
  | _ => none }
def sniffTellsRow : OpenClaim := { program := "ytppabkllconkjaagreatdoor", sum := "9ea89158182bbc27e47f669377d25a73c75a322f3b80ad899a1a21732afd4d93", func := "carding/cardinglaw08.SniffTells", spec := "sniffTells", inPlace := ["internal/bytealg.IndexByteString", "internal/bytealg.IndexString"], unfollowed := true, recurses := true, named := ["unicode/utf8.first", "unicode/utf8.acceptRanges", "carding/label.lists", "internal/bytealg.MaxLen", "carding/utf8.lengths", "carding/utf8.marks", "carding/utf8.limits"], apart := false, laid := [("unicode/utf8.acceptRanges", laid_unicode_utf8_acceptRanges), ("carding/utf8.limits", laid_carding_utf8_limits), ("carding/utf8.marks", laid_carding_utf8_marks), ("carding/utf8.lengths", laid_carding_utf8_lengths), ("carding/label.lists", laid_carding_label_lists), ("unicode/utf8.first", laid_unicode_utf8_first)] }
def SniffTellsSaid : Prop := sniffTellsRow.holds Tryz.pinned (OpenSpec.ofChange sniffTellsSpec)

/-- ITS FALSE NEIGHBOUR: 'it returns false'. Refute it at one input. -/
def sniffTellsWrong : ChangeSpec := { name := "sniffTells", fn := fun _ => fun
  | [d1, d2] => { results := [.lit (.bool false)], args := [d1, d2] }
  | _ => none }
def SniffTellsWrongFalsely : Prop := sniffTellsRow.holds Tryz.pinned (OpenSpec.ofChange sniffTellsWrong)

/-- 'cardinglaw08.SniffCodes': WHATEVER THE INPUT: true; the input reads as it did. -/
def sniffCodesSpec : ChangeSpec := { name := "sniffCodes", fn := fun _ => fun
  | [d1, d2, d3] => { results := [.lit (.bool true)], args := [d1, d2, d3] }
  | _ => none }
def sniffCodesRow : OpenClaim := { program := "ytppabkllconkjaagreatdoor", sum := "9ea89158182bbc27e47f669377d25a73c75a322f3b80ad899a1a21732afd4d93", func := "carding/cardinglaw08.SniffCodes", spec := "sniffCodes", inPlace := ["internal/bytealg.IndexByteString", "internal/bytealg.IndexString"], unfollowed := true, recurses := true, named := ["unicode/utf8.first", "unicode/utf8.acceptRanges", "carding/label.lists", "internal/bytealg.MaxLen", "carding/utf8.lengths", "carding/utf8.marks", "carding/utf8.limits"], apart := false, laid := [("unicode/utf8.acceptRanges", laid_unicode_utf8_acceptRanges), ("carding/utf8.limits", laid_carding_utf8_limits), ("carding/utf8.marks", laid_carding_utf8_marks), ("carding/utf8.lengths", laid_carding_utf8_lengths), ("carding/label.lists", laid_carding_label_lists), ("unicode/utf8.first", laid_unicode_utf8_first)] }
def SniffCodesSaid : Prop := sniffCodesRow.holds Tryz.pinned (OpenSpec.ofChange sniffCodesSpec)

/-- ITS FALSE NEIGHBOUR: 'it returns false'. Refute it at one input. -/
def sniffCodesWrong : ChangeSpec := { name := "sniffCodes", fn := fun _ => fun
  | [d1, d2, d3] => { results := [.lit (.bool false)], args := [d1, d2, d3] }
  | _ => none }
def SniffCodesWrongFalsely : Prop := sniffCodesRow.holds Tryz.pinned (OpenSpec.ofChange sniffCodesWrong)

/-- 'cardinglaw08.SniffBack': WHATEVER THE INPUT: true; the input reads as it did. -/
def sniffBackSpec : ChangeSpec := { name := "sniffBack", fn := fun _ => fun
  | [d1, d2, d3] => { results := [.lit (.bool true)], args := [d1, d2, d3] }
  | _ => none }
def sniffBackRow : OpenClaim := { program := "ytppabkllconkjaagreatdoor", sum := "9ea89158182bbc27e47f669377d25a73c75a322f3b80ad899a1a21732afd4d93", func := "carding/cardinglaw08.SniffBack", spec := "sniffBack", inPlace := ["internal/bytealg.IndexByteString", "internal/bytealg.IndexString"], unfollowed := true, recurses := true, named := ["unicode/utf8.first", "unicode/utf8.acceptRanges", "carding/label.lists", "internal/bytealg.MaxLen", "carding/utf8.lengths", "carding/utf8.marks", "carding/utf8.limits"], apart := false, laid := [("unicode/utf8.acceptRanges", laid_unicode_utf8_acceptRanges), ("carding/utf8.limits", laid_carding_utf8_limits), ("carding/utf8.marks", laid_carding_utf8_marks), ("carding/utf8.lengths", laid_carding_utf8_lengths), ("carding/label.lists", laid_carding_label_lists), ("unicode/utf8.first", laid_unicode_utf8_first)] }
def SniffBackSaid : Prop := sniffBackRow.holds Tryz.pinned (OpenSpec.ofChange sniffBackSpec)

/-- ITS FALSE NEIGHBOUR: 'it returns false'. Refute it at one input. -/
def sniffBackWrong : ChangeSpec := { name := "sniffBack", fn := fun _ => fun
  | [d1, d2, d3] => { results := [.lit (.bool false)], args := [d1, d2, d3] }
  | _ => none }
def SniffBackWrongFalsely : Prop := sniffBackRow.holds Tryz.pinned (OpenSpec.ofChange sniffBackWrong)

/-- 'cardinglaw08.SniffOrder': WHATEVER THE INPUT: true; the input reads as it did. -/
def sniffOrderSpec : ChangeSpec := { name := "sniffOrder", fn := fun _ => fun
  | [d1, d2, d3] => { results := [.lit (.bool true)], args := [d1, d2, d3] }
  | _ => none }
def sniffOrderRow : OpenClaim := { program := "ytppabkllconkjaagreatdoor", sum := "9ea89158182bbc27e47f669377d25a73c75a322f3b80ad899a1a21732afd4d93", func := "carding/cardinglaw08.SniffOrder", spec := "sniffOrder", inPlace := ["internal/bytealg.IndexByteString", "internal/bytealg.IndexString"], unfollowed := true, recurses := true, named := ["unicode/utf8.first", "unicode/utf8.acceptRanges", "carding/label.lists", "internal/bytealg.MaxLen", "carding/utf8.lengths", "carding/utf8.marks", "carding/utf8.limits"], apart := false, laid := [("unicode/utf8.acceptRanges", laid_unicode_utf8_acceptRanges), ("carding/utf8.limits", laid_carding_utf8_limits), ("carding/utf8.marks", laid_carding_utf8_marks), ("carding/utf8.lengths", laid_carding_utf8_lengths), ("carding/label.lists", laid_carding_label_lists), ("unicode/utf8.first", laid_unicode_utf8_first)] }
def SniffOrderSaid : Prop := sniffOrderRow.holds Tryz.pinned (OpenSpec.ofChange sniffOrderSpec)

/-- ITS FALSE NEIGHBOUR: 'it returns false'. Refute it at one input. -/
def sniffOrderWrong : ChangeSpec := { name := "sniffOrder", fn := fun _ => fun
  | [d1, d2, d3] => { results := [.lit (.bool false)], args := [d1, d2, d3] }
  | _ => none }
def SniffOrderWrongFalsely : Prop := sniffOrderRow.holds Tryz.pinned (OpenSpec.ofChange sniffOrderWrong)

/- THE SECOND FORM. 'bulk': how many values and letters a reading holds, each counted each time it is reached (what is shared counts as often as it is met; a slice's spare places count too). A statement '..UptoSaid' is the law's where the arguments, and the package variables that the reading takes, are together of bulk at most 1048576: NARROWER than '..Said'. Prove '..Said' where nothing that the law and all that it calls make is longer than what came in: it says more and counts as full. Else prove '..UptoSaid'. A law counts once. -/
mutual
def uptoBulk {H : Type} : DataW H → Nat
  | .lit (.string bytes) => bytes.length + 1
  | .lit _ => 1
  | .nil => 1
  | .ptr d => uptoBulk d + 1
  | .slice elems spare => uptoBulkAll elems + uptoBulkAll spare + 1
  | .agg parts => uptoBulkAll parts + 1
  | .iface _ d => uptoBulk d + 1
  | .map entries => uptoBulkEntries entries + 1
  | .held _ => 1
def uptoBulkAll {H : Type} : List (DataW H) → Nat
  | [] => 0
  | d :: r => uptoBulk d + uptoBulkAll r
def uptoBulkEntries {H : Type} : List (Lit × DataW H) → Nat
  | [] => 0
  | x :: r => uptoBulkEntry x + uptoBulkEntries r
def uptoBulkEntry {H : Type} : Lit × DataW H → Nat
  | (.string bytes, d) => bytes.length + uptoBulk d + 1
  | (_, d) => uptoBulk d + 1
 end
def uptoSmall : (H : Type) → List (DataW H) → Bool := fun _ ds => decide (uptoBulkAll ds ≤ 1048576)
def OpenSpec.upto (s : _root_.Go.ChangeSpec) : _root_.Go.OpenSpec := { _root_.Go.OpenSpec.ofChange s with cond := some uptoSmall }

/-- 'cardinglaw08.SniffTells', WHERE WHAT IT READS IS OF BULK AT MOST 1048576: true; the input reads as it did. -/
def sniffTellsUptoRow : OpenClaim := { program := "ytppabkllconkjaagreatdoor", sum := "9ea89158182bbc27e47f669377d25a73c75a322f3b80ad899a1a21732afd4d93", func := "carding/cardinglaw08.SniffTells", spec := "sniffTells", inPlace := ["internal/bytealg.IndexByteString", "internal/bytealg.IndexString"], unfollowed := true, recurses := true, named := ["unicode/utf8.first", "unicode/utf8.acceptRanges", "carding/label.lists", "internal/bytealg.MaxLen", "carding/utf8.lengths", "carding/utf8.marks", "carding/utf8.limits"], apart := false, laid := [("unicode/utf8.acceptRanges", laid_unicode_utf8_acceptRanges), ("carding/utf8.limits", laid_carding_utf8_limits), ("carding/utf8.marks", laid_carding_utf8_marks), ("carding/utf8.lengths", laid_carding_utf8_lengths), ("carding/label.lists", laid_carding_label_lists), ("unicode/utf8.first", laid_unicode_utf8_first)], narrowed := true }
def SniffTellsUptoSaid : Prop := sniffTellsUptoRow.holds Tryz.pinned (OpenSpec.upto sniffTellsSpec)

/-- 'cardinglaw08.SniffCodes', WHERE WHAT IT READS IS OF BULK AT MOST 1048576: true; the input reads as it did. -/
def sniffCodesUptoRow : OpenClaim := { program := "ytppabkllconkjaagreatdoor", sum := "9ea89158182bbc27e47f669377d25a73c75a322f3b80ad899a1a21732afd4d93", func := "carding/cardinglaw08.SniffCodes", spec := "sniffCodes", inPlace := ["internal/bytealg.IndexByteString", "internal/bytealg.IndexString"], unfollowed := true, recurses := true, named := ["unicode/utf8.first", "unicode/utf8.acceptRanges", "carding/label.lists", "internal/bytealg.MaxLen", "carding/utf8.lengths", "carding/utf8.marks", "carding/utf8.limits"], apart := false, laid := [("unicode/utf8.acceptRanges", laid_unicode_utf8_acceptRanges), ("carding/utf8.limits", laid_carding_utf8_limits), ("carding/utf8.marks", laid_carding_utf8_marks), ("carding/utf8.lengths", laid_carding_utf8_lengths), ("carding/label.lists", laid_carding_label_lists), ("unicode/utf8.first", laid_unicode_utf8_first)], narrowed := true }
def SniffCodesUptoSaid : Prop := sniffCodesUptoRow.holds Tryz.pinned (OpenSpec.upto sniffCodesSpec)

/-- 'cardinglaw08.SniffBack', WHERE WHAT IT READS IS OF BULK AT MOST 1048576: true; the input reads as it did. -/
def sniffBackUptoRow : OpenClaim := { program := "ytppabkllconkjaagreatdoor", sum := "9ea89158182bbc27e47f669377d25a73c75a322f3b80ad899a1a21732afd4d93", func := "carding/cardinglaw08.SniffBack", spec := "sniffBack", inPlace := ["internal/bytealg.IndexByteString", "internal/bytealg.IndexString"], unfollowed := true, recurses := true, named := ["unicode/utf8.first", "unicode/utf8.acceptRanges", "carding/label.lists", "internal/bytealg.MaxLen", "carding/utf8.lengths", "carding/utf8.marks", "carding/utf8.limits"], apart := false, laid := [("unicode/utf8.acceptRanges", laid_unicode_utf8_acceptRanges), ("carding/utf8.limits", laid_carding_utf8_limits), ("carding/utf8.marks", laid_carding_utf8_marks), ("carding/utf8.lengths", laid_carding_utf8_lengths), ("carding/label.lists", laid_carding_label_lists), ("unicode/utf8.first", laid_unicode_utf8_first)], narrowed := true }
def SniffBackUptoSaid : Prop := sniffBackUptoRow.holds Tryz.pinned (OpenSpec.upto sniffBackSpec)

/-- 'cardinglaw08.SniffOrder', WHERE WHAT IT READS IS OF BULK AT MOST 1048576: true; the input reads as it did. -/
def sniffOrderUptoRow : OpenClaim := { program := "ytppabkllconkjaagreatdoor", sum := "9ea89158182bbc27e47f669377d25a73c75a322f3b80ad899a1a21732afd4d93", func := "carding/cardinglaw08.SniffOrder", spec := "sniffOrder", inPlace := ["internal/bytealg.IndexByteString", "internal/bytealg.IndexString"], unfollowed := true, recurses := true, named := ["unicode/utf8.first", "unicode/utf8.acceptRanges", "carding/label.lists", "internal/bytealg.MaxLen", "carding/utf8.lengths", "carding/utf8.marks", "carding/utf8.limits"], apart := false, laid := [("unicode/utf8.acceptRanges", laid_unicode_utf8_acceptRanges), ("carding/utf8.limits", laid_carding_utf8_limits), ("carding/utf8.marks", laid_carding_utf8_marks), ("carding/utf8.lengths", laid_carding_utf8_lengths), ("carding/label.lists", laid_carding_label_lists), ("unicode/utf8.first", laid_unicode_utf8_first)], narrowed := true }
def SniffOrderUptoSaid : Prop := sniffOrderUptoRow.holds Tryz.pinned (OpenSpec.upto sniffOrderSpec)

end Rows
end Go.Proofs.YtppabkllconkjaaGreatDoor
