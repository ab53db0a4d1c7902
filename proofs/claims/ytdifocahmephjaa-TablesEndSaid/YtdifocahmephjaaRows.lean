/-
  No cell of these rows narrows 'for every input' (looked for: loops, veiled, ifaces, maps, wideKeys, modest, calm, conditions, laid).
  DERIVED. THE GIVEN ROWS OF THIS SEAT. 4 by the template 'for every input the law returns true; each argument reads behind the call as it read before'; 0 by the template 'total and deterministic' (their statements: YtdifocahmephjaaTotals.lean).
  GIVEN WITH THE SEED: the statements are not yours to turn. If you find one false, say at which input.
  Laid BY PROGRAM, IN A SANDBOX (cutbox-rows.mjs): the forced cells as the released guide's own fill.sh prints them over the translation 272202bd4155495f… (all of the seat's roots in one cut). By AI agents, Wed Nov 11 2026. No macro, syntax, notation, axiom, sorry.
-/
import Derived.Test.YtdifocahmephjaaChecked
import GoSem.Claim
import GoSem.ClaimJoined
import GoSem.ClaimMapViews
import Derived.JoinedTies
import Derived.KernelRfl
namespace Go.Proofs.Ytdifocahmephjaa
/- THE CELL 'sum', in the pinned program and in every row, IS THE sha256 OF THE DUMP (.gsa) THAT YtdifocahmephjaaProg.lean LOADS. Nothing in Lean hashes anything: it is a label: what it is worth is what the hold of that sum in a sandbox is worth. -/
noncomputable def Try.pinned : Pinned := { name := "ytdifocahmephjaa", sum := "272202bd4155495f0dd85833f39f9b705dbb07ece5455f7a7bc5a286a04e933c", checked := Try.checked }
namespace Rows
def none {H : Type} : Left H := { results := [], args := [] }

/-- 'cardinglaw10.TablesTell': WHATEVER THE INPUT: true; the input reads as it did. -/
def tablesTellSpec : ChangeSpec := { name := "tablesTell", fn := fun _ => fun
  | [d1, d2, d3] => { results := [.lit (.bool true)], args := [d1, d2, d3] }
  | _ => none }
def tablesTellRow : OpenClaim := { program := "ytdifocahmephjaa", sum := "272202bd4155495f0dd85833f39f9b705dbb07ece5455f7a7bc5a286a04e933c", func := "carding/cardinglaw10.TablesTell", spec := "tablesTell", unfollowed := true, recurses := true, plainKeys := false, apart := false }
def TablesTellSaid : Prop := tablesTellRow.holds Try.pinned (OpenSpec.ofChange tablesTellSpec)

/-- ITS FALSE NEIGHBOUR: 'it returns false'. Refute it at one input. -/
def tablesTellWrong : ChangeSpec := { name := "tablesTell", fn := fun _ => fun
  | [d1, d2, d3] => { results := [.lit (.bool false)], args := [d1, d2, d3] }
  | _ => none }
def TablesTellWrongFalsely : Prop := tablesTellRow.holds Try.pinned (OpenSpec.ofChange tablesTellWrong)

/-- 'cardinglaw10.TablesRows': WHATEVER THE INPUT: true; the input reads as it did. -/
def tablesRowsSpec : ChangeSpec := { name := "tablesRows", fn := fun _ => fun
  | [d] => { results := [.lit (.bool true)], args := [d] }
  | _ => none }
def tablesRowsRow : OpenClaim := { program := "ytdifocahmephjaa", sum := "272202bd4155495f0dd85833f39f9b705dbb07ece5455f7a7bc5a286a04e933c", func := "carding/cardinglaw10.TablesRows", spec := "tablesRows", unfollowed := true, recurses := true, plainKeys := false, apart := false }
def TablesRowsSaid : Prop := tablesRowsRow.holds Try.pinned (OpenSpec.ofChange tablesRowsSpec)

/-- ITS FALSE NEIGHBOUR: 'it returns false'. Refute it at one input. -/
def tablesRowsWrong : ChangeSpec := { name := "tablesRows", fn := fun _ => fun
  | [d] => { results := [.lit (.bool false)], args := [d] }
  | _ => none }
def TablesRowsWrongFalsely : Prop := tablesRowsRow.holds Try.pinned (OpenSpec.ofChange tablesRowsWrong)

/-- 'cardinglaw10.TablesBack': WHATEVER THE INPUT: true; the input reads as it did. -/
def tablesBackSpec : ChangeSpec := { name := "tablesBack", fn := fun _ => fun
  | [d1, d2, d3] => { results := [.lit (.bool true)], args := [d1, d2, d3] }
  | _ => none }
def tablesBackRow : OpenClaim := { program := "ytdifocahmephjaa", sum := "272202bd4155495f0dd85833f39f9b705dbb07ece5455f7a7bc5a286a04e933c", func := "carding/cardinglaw10.TablesBack", spec := "tablesBack", unfollowed := true, recurses := true, plainKeys := false, apart := false }
def TablesBackSaid : Prop := tablesBackRow.holds Try.pinned (OpenSpec.ofChange tablesBackSpec)

/-- ITS FALSE NEIGHBOUR: 'it returns false'. Refute it at one input. -/
def tablesBackWrong : ChangeSpec := { name := "tablesBack", fn := fun _ => fun
  | [d1, d2, d3] => { results := [.lit (.bool false)], args := [d1, d2, d3] }
  | _ => none }
def TablesBackWrongFalsely : Prop := tablesBackRow.holds Try.pinned (OpenSpec.ofChange tablesBackWrong)

/-- 'cardinglaw10.TablesEnd': WHATEVER THE INPUT: true; the input reads as it did. -/
def tablesEndSpec : ChangeSpec := { name := "tablesEnd", fn := fun _ => fun
  | [d] => { results := [.lit (.bool true)], args := [d] }
  | _ => none }
def tablesEndRow : OpenClaim := { program := "ytdifocahmephjaa", sum := "272202bd4155495f0dd85833f39f9b705dbb07ece5455f7a7bc5a286a04e933c", func := "carding/cardinglaw10.TablesEnd", spec := "tablesEnd", unfollowed := true, recurses := true, plainKeys := false, apart := false }
def TablesEndSaid : Prop := tablesEndRow.holds Try.pinned (OpenSpec.ofChange tablesEndSpec)

/-- ITS FALSE NEIGHBOUR: 'it returns false'. Refute it at one input. -/
def tablesEndWrong : ChangeSpec := { name := "tablesEnd", fn := fun _ => fun
  | [d] => { results := [.lit (.bool false)], args := [d] }
  | _ => none }
def TablesEndWrongFalsely : Prop := tablesEndRow.holds Try.pinned (OpenSpec.ofChange tablesEndWrong)

/- THE SECOND FORM. 'bulk': how many values and letters a reading holds, each counted each time it is reached (what is shared counts as often as it is met; a slice's spare places count too). A statement '..UptoSaid' is the law's where the arguments, and the package variables that the reading takes, are together of bulk at most 1048576: NARROWER than '..Said'. Prove '..Said' where nothing that the law and all that it calls make is longer than what came in: it says more and counts as full. Else prove '..UptoSaid'. A law counts once. -/
mutual
def uptoBulk {H : Type} : DataW H → Nat
  | .lit (.string bytes) => bytes.length + 1
  | .lit _ => 1
  | .nil => 1
  | .ptr d => uptoBulk d + 1
  | .slice elems spare => uptoBulkAll elems + uptoBulkAll spare + 1
  | .agg parts => uptoBulkAll parts + 1
  | .iface _ d => uptoBulk d + 1
  | .map entries => uptoBulkEntries entries + 1
  | .held _ => 1
def uptoBulkAll {H : Type} : List (DataW H) → Nat
  | [] => 0
  | d :: r => uptoBulk d + uptoBulkAll r
def uptoBulkEntries {H : Type} : List (Lit × DataW H) → Nat
  | [] => 0
  | x :: r => uptoBulkEntry x + uptoBulkEntries r
def uptoBulkEntry {H : Type} : Lit × DataW H → Nat
  | (.string bytes, d) => bytes.length + uptoBulk d + 1
  | (_, d) => uptoBulk d + 1
 end
def uptoSmall : (H : Type) → List (DataW H) → Bool := fun _ ds => decide (uptoBulkAll ds ≤ 1048576)
def OpenSpec.upto (s : _root_.Go.ChangeSpec) : _root_.Go.OpenSpec := { _root_.Go.OpenSpec.ofChange s with cond := some uptoSmall }

/-- 'cardinglaw10.TablesTell', WHERE WHAT IT READS IS OF BULK AT MOST 1048576: true; the input reads as it did. -/
def tablesTellUptoRow : OpenClaim := { program := "ytdifocahmephjaa", sum := "272202bd4155495f0dd85833f39f9b705dbb07ece5455f7a7bc5a286a04e933c", func := "carding/cardinglaw10.TablesTell", spec := "tablesTell", unfollowed := true, recurses := true, plainKeys := false, apart := false, narrowed := true }
def TablesTellUptoSaid : Prop := tablesTellUptoRow.holds Try.pinned (OpenSpec.upto tablesTellSpec)

/-- 'cardinglaw10.TablesRows', WHERE WHAT IT READS IS OF BULK AT MOST 1048576: true; the input reads as it did. -/
def tablesRowsUptoRow : OpenClaim := { program := "ytdifocahmephjaa", sum := "272202bd4155495f0dd85833f39f9b705dbb07ece5455f7a7bc5a286a04e933c", func := "carding/cardinglaw10.TablesRows", spec := "tablesRows", unfollowed := true, recurses := true, plainKeys := false, apart := false, narrowed := true }
def TablesRowsUptoSaid : Prop := tablesRowsUptoRow.holds Try.pinned (OpenSpec.upto tablesRowsSpec)

/-- 'cardinglaw10.TablesBack', WHERE WHAT IT READS IS OF BULK AT MOST 1048576: true; the input reads as it did. -/
def tablesBackUptoRow : OpenClaim := { program := "ytdifocahmephjaa", sum := "272202bd4155495f0dd85833f39f9b705dbb07ece5455f7a7bc5a286a04e933c", func := "carding/cardinglaw10.TablesBack", spec := "tablesBack", unfollowed := true, recurses := true, plainKeys := false, apart := false, narrowed := true }
def TablesBackUptoSaid : Prop := tablesBackUptoRow.holds Try.pinned (OpenSpec.upto tablesBackSpec)

/-- 'cardinglaw10.TablesEnd', WHERE WHAT IT READS IS OF BULK AT MOST 1048576: true; the input reads as it did. -/
def tablesEndUptoRow : OpenClaim := { program := "ytdifocahmephjaa", sum := "272202bd4155495f0dd85833f39f9b705dbb07ece5455f7a7bc5a286a04e933c", func := "carding/cardinglaw10.TablesEnd", spec := "tablesEnd", unfollowed := true, recurses := true, plainKeys := false, apart := false, narrowed := true }
def TablesEndUptoSaid : Prop := tablesEndUptoRow.holds Try.pinned (OpenSpec.upto tablesEndSpec)

end Rows
end Go.Proofs.Ytdifocahmephjaa
