/-
  No cell of these rows narrows 'for every input' (looked for: loops, veiled, ifaces, maps, wideKeys, modest, calm, conditions, laid).
  DERIVED. THE GIVEN ROWS OF THIS SEAT. 4 by the template 'for every input the law returns true; each argument reads behind the call as it read before'; 0 by the template 'total and deterministic' (their statements: YtkcmkilfhibpeaaTotals.lean).
  GIVEN WITH THE SEED: the statements are not yours to turn. If you find one false, say at which input.
  Laid BY PROGRAM, IN A SANDBOX (cutbox-rows.mjs): the forced cells as the released guide's own fill.sh prints them over the translation c28a2c404a436245… (all of the seat's roots in one cut). By AI agents, Wed Nov 11 2026. No macro, syntax, notation, axiom, sorry.
-/
import Derived.Test.YtkcmkilfhibpeaaChecked
import GoSem.Claim
import GoSem.ClaimJoined
import GoSem.ClaimMapViews
import Derived.JoinedTies
import Derived.KernelRfl
namespace Go.Proofs.Ytkcmkilfhibpeaa
/- THE CELL 'sum', in the pinned program and in every row, IS THE sha256 OF THE DUMP (.gsa) THAT YtkcmkilfhibpeaaProg.lean LOADS. Nothing in Lean hashes anything: it is a label: what it is worth is what the hold of that sum in a sandbox is worth. -/
noncomputable def Try.pinned : Pinned := { name := "ytkcmkilfhibpeaa", sum := "c28a2c404a4362451c2f4fcff12e517481d50574ad87d9fc6884593ed4b5943a", checked := Try.checked }
namespace Rows
def none {H : Type} : Left H := { results := [], args := [] }

/-- 'scrivenerlaw01.CalcClamps': WHATEVER THE INPUT: true; the input reads as it did. -/
def calcClampsSpec : ChangeSpec := { name := "calcClamps", fn := fun _ => fun
  | [d1, d2, d3] => { results := [.lit (.bool true)], args := [d1, d2, d3] }
  | _ => none }
def calcClampsRow : OpenClaim := { program := "ytkcmkilfhibpeaa", sum := "c28a2c404a4362451c2f4fcff12e517481d50574ad87d9fc6884593ed4b5943a", func := "scrivener/scrivenerlaw01.CalcClamps", spec := "calcClamps", apart := false }
def CalcClampsSaid : Prop := calcClampsRow.holds Try.pinned (OpenSpec.ofChange calcClampsSpec)

/-- ITS FALSE NEIGHBOUR: 'it returns false'. Refute it at one input. -/
def calcClampsWrong : ChangeSpec := { name := "calcClamps", fn := fun _ => fun
  | [d1, d2, d3] => { results := [.lit (.bool false)], args := [d1, d2, d3] }
  | _ => none }
def CalcClampsWrongFalsely : Prop := calcClampsRow.holds Try.pinned (OpenSpec.ofChange calcClampsWrong)

/-- 'scrivenerlaw01.CalcParts': WHATEVER THE INPUT: true; the input reads as it did. -/
def calcPartsSpec : ChangeSpec := { name := "calcParts", fn := fun _ => fun
  | [d1, d2] => { results := [.lit (.bool true)], args := [d1, d2] }
  | _ => none }
def calcPartsRow : OpenClaim := { program := "ytkcmkilfhibpeaa", sum := "c28a2c404a4362451c2f4fcff12e517481d50574ad87d9fc6884593ed4b5943a", func := "scrivener/scrivenerlaw01.CalcParts", spec := "calcParts", apart := false }
def CalcPartsSaid : Prop := calcPartsRow.holds Try.pinned (OpenSpec.ofChange calcPartsSpec)

/-- ITS FALSE NEIGHBOUR: 'it returns false'. Refute it at one input. -/
def calcPartsWrong : ChangeSpec := { name := "calcParts", fn := fun _ => fun
  | [d1, d2] => { results := [.lit (.bool false)], args := [d1, d2] }
  | _ => none }
def CalcPartsWrongFalsely : Prop := calcPartsRow.holds Try.pinned (OpenSpec.ofChange calcPartsWrong)

/-- 'scrivenerlaw01.CalcNext': WHATEVER THE INPUT: true; the input reads as it did. -/
def calcNextSpec : ChangeSpec := { name := "calcNext", fn := fun _ => fun
  | [d1, d2] => { results := [.lit (.bool true)], args := [d1, d2] }
  | _ => none }
def calcNextRow : OpenClaim := { program := "ytkcmkilfhibpeaa", sum := "c28a2c404a4362451c2f4fcff12e517481d50574ad87d9fc6884593ed4b5943a", func := "scrivener/scrivenerlaw01.CalcNext", spec := "calcNext", apart := false }
def CalcNextSaid : Prop := calcNextRow.holds Try.pinned (OpenSpec.ofChange calcNextSpec)

/-- ITS FALSE NEIGHBOUR: 'it returns false'. Refute it at one input. -/
def calcNextWrong : ChangeSpec := { name := "calcNext", fn := fun _ => fun
  | [d1, d2] => { results := [.lit (.bool false)], args := [d1, d2] }
  | _ => none }
def CalcNextWrongFalsely : Prop := calcNextRow.holds Try.pinned (OpenSpec.ofChange calcNextWrong)

/-- 'scrivenerlaw01.CalcSpans': WHATEVER THE INPUT: true; the input reads as it did. -/
def calcSpansSpec : ChangeSpec := { name := "calcSpans", fn := fun _ => fun
  | [d1, d2, d3] => { results := [.lit (.bool true)], args := [d1, d2, d3] }
  | _ => none }
def calcSpansRow : OpenClaim := { program := "ytkcmkilfhibpeaa", sum := "c28a2c404a4362451c2f4fcff12e517481d50574ad87d9fc6884593ed4b5943a", func := "scrivener/scrivenerlaw01.CalcSpans", spec := "calcSpans", apart := false }
def CalcSpansSaid : Prop := calcSpansRow.holds Try.pinned (OpenSpec.ofChange calcSpansSpec)

/-- ITS FALSE NEIGHBOUR: 'it returns false'. Refute it at one input. -/
def calcSpansWrong : ChangeSpec := { name := "calcSpans", fn := fun _ => fun
  | [d1, d2, d3] => { results := [.lit (.bool false)], args := [d1, d2, d3] }
  | _ => none }
def CalcSpansWrongFalsely : Prop := calcSpansRow.holds Try.pinned (OpenSpec.ofChange calcSpansWrong)

/- THE SECOND FORM. 'bulk': how many values and letters a reading holds, each counted each time it is reached (what is shared counts as often as it is met; a slice's spare places count too). A statement '..UptoSaid' is the law's where the arguments, and the package variables that the reading takes, are together of bulk at most 1048576: NARROWER than '..Said'. Prove '..Said' where nothing that the law and all that it calls make is longer than what came in: it says more and counts as full. Else prove '..UptoSaid'. A law counts once. -/
mutual
def uptoBulk {H : Type} : DataW H → Nat
  | .lit (.string bytes) => bytes.length + 1
  | .lit _ => 1
  | .nil => 1
  | .ptr d => uptoBulk d + 1
  | .slice elems spare => uptoBulkAll elems + uptoBulkAll spare + 1
  | .agg parts => uptoBulkAll parts + 1
  | .iface _ d => uptoBulk d + 1
  | .map entries => uptoBulkEntries entries + 1
  | .held _ => 1
def uptoBulkAll {H : Type} : List (DataW H) → Nat
  | [] => 0
  | d :: r => uptoBulk d + uptoBulkAll r
def uptoBulkEntries {H : Type} : List (Lit × DataW H) → Nat
  | [] => 0
  | x :: r => uptoBulkEntry x + uptoBulkEntries r
def uptoBulkEntry {H : Type} : Lit × DataW H → Nat
  | (.string bytes, d) => bytes.length + uptoBulk d + 1
  | (_, d) => uptoBulk d + 1
 end
def uptoSmall : (H : Type) → List (DataW H) → Bool := fun _ ds => decide (uptoBulkAll ds ≤ 1048576)
def OpenSpec.upto (s : _root_.Go.ChangeSpec) : _root_.Go.OpenSpec := { _root_.Go.OpenSpec.ofChange s with cond := some uptoSmall }

/-- 'scrivenerlaw01.CalcClamps', WHERE WHAT IT READS IS OF BULK AT MOST 1048576: true; the input reads as it did. -/
def calcClampsUptoRow : OpenClaim := { program := "ytkcmkilfhibpeaa", sum := "c28a2c404a4362451c2f4fcff12e517481d50574ad87d9fc6884593ed4b5943a", func := "scrivener/scrivenerlaw01.CalcClamps", spec := "calcClamps", apart := false, narrowed := true }
def CalcClampsUptoSaid : Prop := calcClampsUptoRow.holds Try.pinned (OpenSpec.upto calcClampsSpec)

/-- 'scrivenerlaw01.CalcParts', WHERE WHAT IT READS IS OF BULK AT MOST 1048576: true; the input reads as it did. -/
def calcPartsUptoRow : OpenClaim := { program := "ytkcmkilfhibpeaa", sum := "c28a2c404a4362451c2f4fcff12e517481d50574ad87d9fc6884593ed4b5943a", func := "scrivener/scrivenerlaw01.CalcParts", spec := "calcParts", apart := false, narrowed := true }
def CalcPartsUptoSaid : Prop := calcPartsUptoRow.holds Try.pinned (OpenSpec.upto calcPartsSpec)

/-- 'scrivenerlaw01.CalcNext', WHERE WHAT IT READS IS OF BULK AT MOST 1048576: true; the input reads as it did. -/
def calcNextUptoRow : OpenClaim := { program := "ytkcmkilfhibpeaa", sum := "c28a2c404a4362451c2f4fcff12e517481d50574ad87d9fc6884593ed4b5943a", func := "scrivener/scrivenerlaw01.CalcNext", spec := "calcNext", apart := false, narrowed := true }
def CalcNextUptoSaid : Prop := calcNextUptoRow.holds Try.pinned (OpenSpec.upto calcNextSpec)

/-- 'scrivenerlaw01.CalcSpans', WHERE WHAT IT READS IS OF BULK AT MOST 1048576: true; the input reads as it did. -/
def calcSpansUptoRow : OpenClaim := { program := "ytkcmkilfhibpeaa", sum := "c28a2c404a4362451c2f4fcff12e517481d50574ad87d9fc6884593ed4b5943a", func := "scrivener/scrivenerlaw01.CalcSpans", spec := "calcSpans", apart := false, narrowed := true }
def CalcSpansUptoSaid : Prop := calcSpansUptoRow.holds Try.pinned (OpenSpec.upto calcSpansSpec)

end Rows
end Go.Proofs.Ytkcmkilfhibpeaa
