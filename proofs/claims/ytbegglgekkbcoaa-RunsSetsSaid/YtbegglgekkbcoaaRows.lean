/-
  No cell of these rows narrows 'for every input' (looked for: loops, veiled, ifaces, maps, wideKeys, modest, calm, conditions, laid).
  DERIVED. THE GIVEN ROWS OF THIS SEAT. 5 by the template 'for every input the law returns true; each argument reads behind the call as it read before'; 0 by the template 'total and deterministic' (their statements: YtbegglgekkbcoaaTotals.lean).
  GIVEN WITH THE SEED: the statements are not yours to turn. If you find one false, say at which input.
  Laid BY PROGRAM, IN A SANDBOX (cutbox-rows.mjs): the forced cells as the released guide's own fill.sh prints them over the translation 331e312adcd415d9… (all of the seat's roots in one cut). By AI agents, Wed Nov 11 2026. No macro, syntax, notation, axiom, sorry.
-/
import Derived.Test.YtbegglgekkbcoaaChecked
import GoSem.Claim
import GoSem.ClaimJoined
import GoSem.ClaimMapViews
import Derived.JoinedTies
import Derived.KernelRfl
namespace Go.Proofs.Ytbegglgekkbcoaa
/- THE CELL 'sum', in the pinned program and in every row, IS THE sha256 OF THE DUMP (.gsa) THAT YtbegglgekkbcoaaProg.lean LOADS. Nothing in Lean hashes anything: it is a label: what it is worth is what the hold of that sum in a sandbox is worth. -/
noncomputable def Try.pinned : Pinned := { name := "ytbegglgekkbcoaa", sum := "331e312adcd415d99ae5a9d78f39f46699101bf4a9b8364d6dec8f36284c47f9", checked := Try.checked }
namespace Rows
def none {H : Type} : Left H := { results := [], args := [] }

/-- 'scrivenerlaw10.RunsTells': WHATEVER THE INPUT: true; the input reads as it did. -/
def runsTellsSpec : ChangeSpec := { name := "runsTells", fn := fun _ => fun
  | [d1, d2] => { results := [.lit (.bool true)], args := [d1, d2] }
  | _ => none }
def runsTellsRow : OpenClaim := { program := "ytbegglgekkbcoaa", sum := "331e312adcd415d99ae5a9d78f39f46699101bf4a9b8364d6dec8f36284c47f9", func := "scrivener/scrivenerlaw10.RunsTells", spec := "runsTells", apart := false }
def RunsTellsSaid : Prop := runsTellsRow.holds Try.pinned (OpenSpec.ofChange runsTellsSpec)

/-- ITS FALSE NEIGHBOUR: 'it returns false'. Refute it at one input. -/
def runsTellsWrong : ChangeSpec := { name := "runsTells", fn := fun _ => fun
  | [d1, d2] => { results := [.lit (.bool false)], args := [d1, d2] }
  | _ => none }
def RunsTellsWrongFalsely : Prop := runsTellsRow.holds Try.pinned (OpenSpec.ofChange runsTellsWrong)

/-- 'scrivenerlaw10.RunsSets': WHATEVER THE INPUT: true; the input reads as it did. -/
def runsSetsSpec : ChangeSpec := { name := "runsSets", fn := fun _ => fun
  | [d1, d2, d3] => { results := [.lit (.bool true)], args := [d1, d2, d3] }
  | _ => none }
def runsSetsRow : OpenClaim := { program := "ytbegglgekkbcoaa", sum := "331e312adcd415d99ae5a9d78f39f46699101bf4a9b8364d6dec8f36284c47f9", func := "scrivener/scrivenerlaw10.RunsSets", spec := "runsSets", apart := false }
def RunsSetsSaid : Prop := runsSetsRow.holds Try.pinned (OpenSpec.ofChange runsSetsSpec)

/-- ITS FALSE NEIGHBOUR: 'it returns false'. Refute it at one input. -/
def runsSetsWrong : ChangeSpec := { name := "runsSets", fn := fun _ => fun
  | [d1, d2, d3] => { results := [.lit (.bool false)], args := [d1, d2, d3] }
  | _ => none }
def RunsSetsWrongFalsely : Prop := runsSetsRow.holds Try.pinned (OpenSpec.ofChange runsSetsWrong)

/-- 'scrivenerlaw10.RunsEdits': WHATEVER THE INPUT: true; the input reads as it did. -/
def runsEditsSpec : ChangeSpec := { name := "runsEdits", fn := fun _ => fun
  | [d1, d2, d3] => { results := [.lit (.bool true)], args := [d1, d2, d3] }
  | _ => none }
def runsEditsRow : OpenClaim := { program := "ytbegglgekkbcoaa", sum := "331e312adcd415d99ae5a9d78f39f46699101bf4a9b8364d6dec8f36284c47f9", func := "scrivener/scrivenerlaw10.RunsEdits", spec := "runsEdits", apart := false }
def RunsEditsSaid : Prop := runsEditsRow.holds Try.pinned (OpenSpec.ofChange runsEditsSpec)

/-- ITS FALSE NEIGHBOUR: 'it returns false'. Refute it at one input. -/
def runsEditsWrong : ChangeSpec := { name := "runsEdits", fn := fun _ => fun
  | [d1, d2, d3] => { results := [.lit (.bool false)], args := [d1, d2, d3] }
  | _ => none }
def RunsEditsWrongFalsely : Prop := runsEditsRow.holds Try.pinned (OpenSpec.ofChange runsEditsWrong)

/-- 'scrivenerlaw10.RunsParts': WHATEVER THE INPUT: true; the input reads as it did. -/
def runsPartsSpec : ChangeSpec := { name := "runsParts", fn := fun _ => fun
  | [d1, d2, d3] => { results := [.lit (.bool true)], args := [d1, d2, d3] }
  | _ => none }
def runsPartsRow : OpenClaim := { program := "ytbegglgekkbcoaa", sum := "331e312adcd415d99ae5a9d78f39f46699101bf4a9b8364d6dec8f36284c47f9", func := "scrivener/scrivenerlaw10.RunsParts", spec := "runsParts", apart := false }
def RunsPartsSaid : Prop := runsPartsRow.holds Try.pinned (OpenSpec.ofChange runsPartsSpec)

/-- ITS FALSE NEIGHBOUR: 'it returns false'. Refute it at one input. -/
def runsPartsWrong : ChangeSpec := { name := "runsParts", fn := fun _ => fun
  | [d1, d2, d3] => { results := [.lit (.bool false)], args := [d1, d2, d3] }
  | _ => none }
def RunsPartsWrongFalsely : Prop := runsPartsRow.holds Try.pinned (OpenSpec.ofChange runsPartsWrong)

/-- 'scrivenerlaw10.RunsGreat': WHATEVER THE INPUT: true; the input reads as it did. -/
def runsGreatSpec : ChangeSpec := { name := "runsGreat", fn := fun _ => fun
  | [d1, d2] => { results := [.lit (.bool true)], args := [d1, d2] }
  | _ => none }
def runsGreatRow : OpenClaim := { program := "ytbegglgekkbcoaa", sum := "331e312adcd415d99ae5a9d78f39f46699101bf4a9b8364d6dec8f36284c47f9", func := "scrivener/scrivenerlaw10.RunsGreat", spec := "runsGreat", apart := false }
def RunsGreatSaid : Prop := runsGreatRow.holds Try.pinned (OpenSpec.ofChange runsGreatSpec)

/-- ITS FALSE NEIGHBOUR: 'it returns false'. Refute it at one input. -/
def runsGreatWrong : ChangeSpec := { name := "runsGreat", fn := fun _ => fun
  | [d1, d2] => { results := [.lit (.bool false)], args := [d1, d2] }
  | _ => none }
def RunsGreatWrongFalsely : Prop := runsGreatRow.holds Try.pinned (OpenSpec.ofChange runsGreatWrong)

/- THE SECOND FORM. 'bulk': how many values and letters a reading holds, each counted each time it is reached (what is shared counts as often as it is met; a slice's spare places count too). A statement '..UptoSaid' is the law's where the arguments, and the package variables that the reading takes, are together of bulk at most 1048576: NARROWER than '..Said'. Prove '..Said' where nothing that the law and all that it calls make is longer than what came in: it says more and counts as full. Else prove '..UptoSaid'. A law counts once. -/
mutual
def uptoBulk {H : Type} : DataW H → Nat
  | .lit (.string bytes) => bytes.length + 1
  | .lit _ => 1
  | .nil => 1
  | .ptr d => uptoBulk d + 1
  | .slice elems spare => uptoBulkAll elems + uptoBulkAll spare + 1
  | .agg parts => uptoBulkAll parts + 1
  | .iface _ d => uptoBulk d + 1
  | .map entries => uptoBulkEntries entries + 1
  | .held _ => 1
def uptoBulkAll {H : Type} : List (DataW H) → Nat
  | [] => 0
  | d :: r => uptoBulk d + uptoBulkAll r
def uptoBulkEntries {H : Type} : List (Lit × DataW H) → Nat
  | [] => 0
  | x :: r => uptoBulkEntry x + uptoBulkEntries r
def uptoBulkEntry {H : Type} : Lit × DataW H → Nat
  | (.string bytes, d) => bytes.length + uptoBulk d + 1
  | (_, d) => uptoBulk d + 1
 end
def uptoSmall : (H : Type) → List (DataW H) → Bool := fun _ ds => decide (uptoBulkAll ds ≤ 1048576)
def OpenSpec.upto (s : _root_.Go.ChangeSpec) : _root_.Go.OpenSpec := { _root_.Go.OpenSpec.ofChange s with cond := some uptoSmall }

/-- 'scrivenerlaw10.RunsTells', WHERE WHAT IT READS IS OF BULK AT MOST 1048576: true; the input reads as it did. -/
def runsTellsUptoRow : OpenClaim := { program := "ytbegglgekkbcoaa", sum := "331e312adcd415d99ae5a9d78f39f46699101bf4a9b8364d6dec8f36284c47f9", func := "scrivener/scrivenerlaw10.RunsTells", spec := "runsTells", apart := false, narrowed := true }
def RunsTellsUptoSaid : Prop := runsTellsUptoRow.holds Try.pinned (OpenSpec.upto runsTellsSpec)

/-- 'scrivenerlaw10.RunsSets', WHERE WHAT IT READS IS OF BULK AT MOST 1048576: true; the input reads as it did. -/
def runsSetsUptoRow : OpenClaim := { program := "ytbegglgekkbcoaa", sum := "331e312adcd415d99ae5a9d78f39f46699101bf4a9b8364d6dec8f36284c47f9", func := "scrivener/scrivenerlaw10.RunsSets", spec := "runsSets", apart := false, narrowed := true }
def RunsSetsUptoSaid : Prop := runsSetsUptoRow.holds Try.pinned (OpenSpec.upto runsSetsSpec)

/-- 'scrivenerlaw10.RunsEdits', WHERE WHAT IT READS IS OF BULK AT MOST 1048576: true; the input reads as it did. -/
def runsEditsUptoRow : OpenClaim := { program := "ytbegglgekkbcoaa", sum := "331e312adcd415d99ae5a9d78f39f46699101bf4a9b8364d6dec8f36284c47f9", func := "scrivener/scrivenerlaw10.RunsEdits", spec := "runsEdits", apart := false, narrowed := true }
def RunsEditsUptoSaid : Prop := runsEditsUptoRow.holds Try.pinned (OpenSpec.upto runsEditsSpec)

/-- 'scrivenerlaw10.RunsParts', WHERE WHAT IT READS IS OF BULK AT MOST 1048576: true; the input reads as it did. -/
def runsPartsUptoRow : OpenClaim := { program := "ytbegglgekkbcoaa", sum := "331e312adcd415d99ae5a9d78f39f46699101bf4a9b8364d6dec8f36284c47f9", func := "scrivener/scrivenerlaw10.RunsParts", spec := "runsParts", apart := false, narrowed := true }
def RunsPartsUptoSaid : Prop := runsPartsUptoRow.holds Try.pinned (OpenSpec.upto runsPartsSpec)

/-- 'scrivenerlaw10.RunsGreat', WHERE WHAT IT READS IS OF BULK AT MOST 1048576: true; the input reads as it did. -/
def runsGreatUptoRow : OpenClaim := { program := "ytbegglgekkbcoaa", sum := "331e312adcd415d99ae5a9d78f39f46699101bf4a9b8364d6dec8f36284c47f9", func := "scrivener/scrivenerlaw10.RunsGreat", spec := "runsGreat", apart := false, narrowed := true }
def RunsGreatUptoSaid : Prop := runsGreatUptoRow.holds Try.pinned (OpenSpec.upto runsGreatSpec)

end Rows
end Go.Proofs.Ytbegglgekkbcoaa
