/-
  NARROWER THAN 'FOR EVERY INPUT', by the rows' own cells (each row's printed sentence says how): CellsMake: laid · CellsXs: laid · CellsWidth: laid.
  DERIVED. THE GIVEN ROWS OF THIS SEAT. 3 by the template 'for every input the law returns true; each argument reads behind the call as it read before'; 0 by the template 'total and deterministic' (their statements: YtimplngemjdodaaDoorTotals.lean).
  GIVEN WITH THE SEED: the statements are not yours to turn. If you find one false, say at which input.
  Laid BY PROGRAM, IN A SANDBOX (cutbox-rows.mjs): the forced cells as the released guide's own fill.sh prints them over the translation b5b81b1a2be1c3e8… (all of the seat's roots in one cut). By AI agents, Wed Nov 11 2026. No macro, syntax, notation, axiom, sorry.
-/
import Derived.Test.YtimplngemjdodaaDoorChecked
import GoSem.Claim
import GoSem.ClaimJoined
import GoSem.ClaimMapViews
import Derived.JoinedTies
import Derived.KernelRfl
namespace Go.Proofs.YtimplngemjdodaaDoor
/- THE CELL 'sum', in the pinned program and in every row, IS THE sha256 OF THE DUMP (.gsa) THAT YtimplngemjdodaaDoorProg.lean LOADS. Nothing in Lean hashes anything: it is a label: what it is worth is what the hold of that sum in a sandbox is worth. -/
noncomputable def Tryd.pinned : Pinned := { name := "ytimplngemjdodaadoor", sum := "b5b81b1a2be1c3e86507ecd26b8fba64bd228f3e9739dafc31ae8c83e8882dc7", checked := Tryd.checked }
namespace Rows
def none {H : Type} : Left H := { results := [], args := [] }

/- WHAT THE LISTED PACKAGE-LEVEL VARIABLES READ AS WHEN THE CALL BEGINS. Each datum BY PROGRAM (the guide's laid-datum.mjs) off the statement by which the dump's own 'gosem.cut.vars' lays the variable. In a bare row this is a premise. The card (YtimplngemjdodaaDoorCards.lean) ties it to the program's text. -/
def laid_scrivener_utf_heads {H : Type} : DataW H := .agg [.lit (.int .u8 0), .lit (.int .u8 0), .lit (.int .u8 192), .lit (.int .u8 224), .lit (.int .u8 240)]

/-- 'scrivenerlaw17.CellsMake': WHATEVER THE INPUT: true; the input reads as it did. -/
def cellsMakeSpec : ChangeSpec := { name := "cellsMake", fn := fun _ => fun
  | [d1, d2, d3] => { results := [.lit (.bool true)], args := [d1, d2, d3] }
  | _ => none }
def cellsMakeRow : OpenClaim := { program := "ytimplngemjdodaadoor", sum := "b5b81b1a2be1c3e86507ecd26b8fba64bd228f3e9739dafc31ae8c83e8882dc7", func := "scrivener/scrivenerlaw17.CellsMake", spec := "cellsMake", named := ["scrivener/utf.heads"], apart := false, laid := [("scrivener/utf.heads", laid_scrivener_utf_heads)] }
def CellsMakeSaid : Prop := cellsMakeRow.holds Tryd.pinned (OpenSpec.ofChange cellsMakeSpec)

/-- ITS FALSE NEIGHBOUR: 'it returns false'. Refute it at one input. -/
def cellsMakeWrong : ChangeSpec := { name := "cellsMake", fn := fun _ => fun
  | [d1, d2, d3] => { results := [.lit (.bool false)], args := [d1, d2, d3] }
  | _ => none }
def CellsMakeWrongFalsely : Prop := cellsMakeRow.holds Tryd.pinned (OpenSpec.ofChange cellsMakeWrong)

/-- 'scrivenerlaw17.CellsXs': WHATEVER THE INPUT: true; the input reads as it did. -/
def cellsXsSpec : ChangeSpec := { name := "cellsXs", fn := fun _ => fun
  | [d] => { results := [.lit (.bool true)], args := [d] }
  | _ => none }
def cellsXsRow : OpenClaim := { program := "ytimplngemjdodaadoor", sum := "b5b81b1a2be1c3e86507ecd26b8fba64bd228f3e9739dafc31ae8c83e8882dc7", func := "scrivener/scrivenerlaw17.CellsXs", spec := "cellsXs", named := ["scrivener/utf.heads"], apart := false, laid := [("scrivener/utf.heads", laid_scrivener_utf_heads)] }
def CellsXsSaid : Prop := cellsXsRow.holds Tryd.pinned (OpenSpec.ofChange cellsXsSpec)

/-- ITS FALSE NEIGHBOUR: 'it returns false'. Refute it at one input. -/
def cellsXsWrong : ChangeSpec := { name := "cellsXs", fn := fun _ => fun
  | [d] => { results := [.lit (.bool false)], args := [d] }
  | _ => none }
def CellsXsWrongFalsely : Prop := cellsXsRow.holds Tryd.pinned (OpenSpec.ofChange cellsXsWrong)

/-- 'scrivenerlaw17.CellsWidth': WHATEVER THE INPUT: true; the input reads as it did. -/
def cellsWidthSpec : ChangeSpec := { name := "cellsWidth", fn := fun _ => fun
  | [d1, d2] => { results := [.lit (.bool true)], args := [d1, d2] }
  | _ => none }
def cellsWidthRow : OpenClaim := { program := "ytimplngemjdodaadoor", sum := "b5b81b1a2be1c3e86507ecd26b8fba64bd228f3e9739dafc31ae8c83e8882dc7", func := "scrivener/scrivenerlaw17.CellsWidth", spec := "cellsWidth", named := ["scrivener/utf.heads"], apart := false, laid := [("scrivener/utf.heads", laid_scrivener_utf_heads)] }
def CellsWidthSaid : Prop := cellsWidthRow.holds Tryd.pinned (OpenSpec.ofChange cellsWidthSpec)

/-- ITS FALSE NEIGHBOUR: 'it returns false'. Refute it at one input. -/
def cellsWidthWrong : ChangeSpec := { name := "cellsWidth", fn := fun _ => fun
  | [d1, d2] => { results := [.lit (.bool false)], args := [d1, d2] }
  | _ => none }
def CellsWidthWrongFalsely : Prop := cellsWidthRow.holds Tryd.pinned (OpenSpec.ofChange cellsWidthWrong)

/- THE SECOND FORM. 'bulk': how many values and letters a reading holds, each counted each time it is reached (what is shared counts as often as it is met; a slice's spare places count too). A statement '..UptoSaid' is the law's where the arguments, and the package variables that the reading takes, are together of bulk at most 1048576: NARROWER than '..Said'. Prove '..Said' where nothing that the law and all that it calls make is longer than what came in: it says more and counts as full. Else prove '..UptoSaid'. A law counts once. -/
mutual
def uptoBulk {H : Type} : DataW H → Nat
  | .lit (.string bytes) => bytes.length + 1
  | .lit _ => 1
  | .nil => 1
  | .ptr d => uptoBulk d + 1
  | .slice elems spare => uptoBulkAll elems + uptoBulkAll spare + 1
  | .agg parts => uptoBulkAll parts + 1
  | .iface _ d => uptoBulk d + 1
  | .map entries => uptoBulkEntries entries + 1
  | .held _ => 1
def uptoBulkAll {H : Type} : List (DataW H) → Nat
  | [] => 0
  | d :: r => uptoBulk d + uptoBulkAll r
def uptoBulkEntries {H : Type} : List (Lit × DataW H) → Nat
  | [] => 0
  | x :: r => uptoBulkEntry x + uptoBulkEntries r
def uptoBulkEntry {H : Type} : Lit × DataW H → Nat
  | (.string bytes, d) => bytes.length + uptoBulk d + 1
  | (_, d) => uptoBulk d + 1
 end
def uptoSmall : (H : Type) → List (DataW H) → Bool := fun _ ds => decide (uptoBulkAll ds ≤ 1048576)
def OpenSpec.upto (s : _root_.Go.ChangeSpec) : _root_.Go.OpenSpec := { _root_.Go.OpenSpec.ofChange s with cond := some uptoSmall }

/-- 'scrivenerlaw17.CellsMake', WHERE WHAT IT READS IS OF BULK AT MOST 1048576: true; the input reads as it did. -/
def cellsMakeUptoRow : OpenClaim := { program := "ytimplngemjdodaadoor", sum := "b5b81b1a2be1c3e86507ecd26b8fba64bd228f3e9739dafc31ae8c83e8882dc7", func := "scrivener/scrivenerlaw17.CellsMake", spec := "cellsMake", named := ["scrivener/utf.heads"], apart := false, laid := [("scrivener/utf.heads", laid_scrivener_utf_heads)], narrowed := true }
def CellsMakeUptoSaid : Prop := cellsMakeUptoRow.holds Tryd.pinned (OpenSpec.upto cellsMakeSpec)

/-- 'scrivenerlaw17.CellsXs', WHERE WHAT IT READS IS OF BULK AT MOST 1048576: true; the input reads as it did. -/
def cellsXsUptoRow : OpenClaim := { program := "ytimplngemjdodaadoor", sum := "b5b81b1a2be1c3e86507ecd26b8fba64bd228f3e9739dafc31ae8c83e8882dc7", func := "scrivener/scrivenerlaw17.CellsXs", spec := "cellsXs", named := ["scrivener/utf.heads"], apart := false, laid := [("scrivener/utf.heads", laid_scrivener_utf_heads)], narrowed := true }
def CellsXsUptoSaid : Prop := cellsXsUptoRow.holds Tryd.pinned (OpenSpec.upto cellsXsSpec)

/-- 'scrivenerlaw17.CellsWidth', WHERE WHAT IT READS IS OF BULK AT MOST 1048576: true; the input reads as it did. -/
def cellsWidthUptoRow : OpenClaim := { program := "ytimplngemjdodaadoor", sum := "b5b81b1a2be1c3e86507ecd26b8fba64bd228f3e9739dafc31ae8c83e8882dc7", func := "scrivener/scrivenerlaw17.CellsWidth", spec := "cellsWidth", named := ["scrivener/utf.heads"], apart := false, laid := [("scrivener/utf.heads", laid_scrivener_utf_heads)], narrowed := true }
def CellsWidthUptoSaid : Prop := cellsWidthUptoRow.holds Tryd.pinned (OpenSpec.upto cellsWidthSpec)

end Rows
end Go.Proofs.YtimplngemjdodaaDoor
