/-
  NARROWER THAN 'FOR EVERY INPUT', by the rows' own cells (each row's printed sentence says how): ShadeStyles: laid.
  DERIVED. THE GIVEN ROWS OF THIS SEAT. 1 by the template 'for every input the law returns true; each argument reads behind the call as it read before'; 0 by the template 'total and deterministic' (their statements: YthhaacekfgdoeaaDoorTotals.lean).
  GIVEN WITH THE SEED: the statements are not yours to turn. If you find one false, say at which input.
  Laid BY PROGRAM, IN A SANDBOX (cutbox-rows.mjs): the forced cells as the released guide's own fill.sh prints them over the translation f97d05f585c71b2c… (all of the seat's roots in one cut). By AI agents, Wed Nov 11 2026. No macro, syntax, notation, axiom, sorry.
-/
import Derived.Test.YthhaacekfgdoeaaDoorChecked
import GoSem.Claim
import GoSem.ClaimJoined
import GoSem.ClaimMapViews
import Derived.JoinedTies
import Derived.KernelRfl
namespace Go.Proofs.YthhaacekfgdoeaaDoor
/- THE CELL 'sum', in the pinned program and in every row, IS THE sha256 OF THE DUMP (.gsa) THAT YthhaacekfgdoeaaDoorProg.lean LOADS. Nothing in Lean hashes anything: it is a label: what it is worth is what the hold of that sum in a sandbox is worth. -/
noncomputable def Tryd.pinned : Pinned := { name := "ythhaacekfgdoeaadoor", sum := "f97d05f585c71b2cb187d8914b2cb37e5eef608eea82cb9ba469a7e449d520fb", checked := Tryd.checked }
namespace Rows
def none {H : Type} : Left H := { results := [], args := [] }

/- WHAT THE LISTED PACKAGE-LEVEL VARIABLES READ AS WHEN THE CALL BEGINS. Each datum BY PROGRAM (the guide's laid-datum.mjs) off the statement by which the dump's own 'gosem.cut.vars' lays the variable. In a bare row this is a premise. The card (YthhaacekfgdoeaaDoorCards.lean) ties it to the program's text. -/
def laid_scrivener_shade_inks {H : Type} : DataW H := .agg [.lit (.int .u32 0), .lit (.int .u32 2105472), .lit (.int .u32 2125856), .lit (.int .u32 8396832), .lit (.int .u32 8413184), .lit (.int .u32 26728), .lit (.int .u32 7348336), .lit (.int .u32 5263440)]

/-- 'scrivenerlaw09.ShadeStyles': WHATEVER THE INPUT: true; the input reads as it did. -/
def shadeStylesSpec : ChangeSpec := { name := "shadeStyles", fn := fun _ => fun
  | [d1, d2, d3] => { results := [.lit (.bool true)], args := [d1, d2, d3] }
  | _ => none }
def shadeStylesRow : OpenClaim := { program := "ythhaacekfgdoeaadoor", sum := "f97d05f585c71b2cb187d8914b2cb37e5eef608eea82cb9ba469a7e449d520fb", func := "scrivener/scrivenerlaw09.ShadeStyles", spec := "shadeStyles", named := ["scrivener/shade.inks"], apart := false, laid := [("scrivener/shade.inks", laid_scrivener_shade_inks)] }
def ShadeStylesSaid : Prop := shadeStylesRow.holds Tryd.pinned (OpenSpec.ofChange shadeStylesSpec)

/-- ITS FALSE NEIGHBOUR: 'it returns false'. Refute it at one input. -/
def shadeStylesWrong : ChangeSpec := { name := "shadeStyles", fn := fun _ => fun
  | [d1, d2, d3] => { results := [.lit (.bool false)], args := [d1, d2, d3] }
  | _ => none }
def ShadeStylesWrongFalsely : Prop := shadeStylesRow.holds Tryd.pinned (OpenSpec.ofChange shadeStylesWrong)

/- THE SECOND FORM. 'bulk': how many values and letters a reading holds, each counted each time it is reached (what is shared counts as often as it is met; a slice's spare places count too). A statement '..UptoSaid' is the law's where the arguments, and the package variables that the reading takes, are together of bulk at most 1048576: NARROWER than '..Said'. Prove '..Said' where nothing that the law and all that it calls make is longer than what came in: it says more and counts as full. Else prove '..UptoSaid'. A law counts once. -/
mutual
def uptoBulk {H : Type} : DataW H → Nat
  | .lit (.string bytes) => bytes.length + 1
  | .lit _ => 1
  | .nil => 1
  | .ptr d => uptoBulk d + 1
  | .slice elems spare => uptoBulkAll elems + uptoBulkAll spare + 1
  | .agg parts => uptoBulkAll parts + 1
  | .iface _ d => uptoBulk d + 1
  | .map entries => uptoBulkEntries entries + 1
  | .held _ => 1
def uptoBulkAll {H : Type} : List (DataW H) → Nat
  | [] => 0
  | d :: r => uptoBulk d + uptoBulkAll r
def uptoBulkEntries {H : Type} : List (Lit × DataW H) → Nat
  | [] => 0
  | x :: r => uptoBulkEntry x + uptoBulkEntries r
def uptoBulkEntry {H : Type} : Lit × DataW H → Nat
  | (.string bytes, d) => bytes.length + uptoBulk d + 1
  | (_, d) => uptoBulk d + 1
 end
def uptoSmall : (H : Type) → List (DataW H) → Bool := fun _ ds => decide (uptoBulkAll ds ≤ 1048576)
def OpenSpec.upto (s : _root_.Go.ChangeSpec) : _root_.Go.OpenSpec := { _root_.Go.OpenSpec.ofChange s with cond := some uptoSmall }

/-- 'scrivenerlaw09.ShadeStyles', WHERE WHAT IT READS IS OF BULK AT MOST 1048576: true; the input reads as it did. -/
def shadeStylesUptoRow : OpenClaim := { program := "ythhaacekfgdoeaadoor", sum := "f97d05f585c71b2cb187d8914b2cb37e5eef608eea82cb9ba469a7e449d520fb", func := "scrivener/scrivenerlaw09.ShadeStyles", spec := "shadeStyles", named := ["scrivener/shade.inks"], apart := false, laid := [("scrivener/shade.inks", laid_scrivener_shade_inks)], narrowed := true }
def ShadeStylesUptoSaid : Prop := shadeStylesUptoRow.holds Tryd.pinned (OpenSpec.upto shadeStylesSpec)

end Rows
end Go.Proofs.YthhaacekfgdoeaaDoor
