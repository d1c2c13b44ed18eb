/-
  No cell of these rows narrows 'for every input' (looked for: loops, veiled, ifaces, maps, wideKeys, modest, calm, conditions, laid).
  DERIVED. THE GIVEN ROWS OF THIS SEAT. 4 by the template 'for every input the law returns true; each argument reads behind the call as it read before'; 0 by the template 'total and deterministic' (their statements: YtddmhonhajfehaaTotals.lean).
  GIVEN WITH THE SEED: the statements are not yours to turn. If you find one false, say at which input.
  Laid BY PROGRAM, IN A SANDBOX (cutbox-rows.mjs): the forced cells as the released guide's own fill.sh prints them over the translation 8fb194d27a50ba2b… (all of the seat's roots in one cut). By AI agents, Wed Nov 11 2026. No macro, syntax, notation, axiom, sorry.
-/
import Derived.Test.YtddmhonhajfehaaChecked
import GoSem.Claim
import GoSem.ClaimJoined
import GoSem.ClaimMapViews
import Derived.JoinedTies
import Derived.KernelRfl
namespace Go.Proofs.Ytddmhonhajfehaa
/- THE CELL 'sum', in the pinned program and in every row, IS THE sha256 OF THE DUMP (.gsa) THAT YtddmhonhajfehaaProg.lean LOADS. Nothing in Lean hashes anything: it is a label: what it is worth is what the hold of that sum in a sandbox is worth. -/
noncomputable def Try.pinned : Pinned := { name := "ytddmhonhajfehaa", sum := "8fb194d27a50ba2b742bfd5969951eefbb1687ca6447f25674b046f7d8fee9c6", checked := Try.checked }
namespace Rows
def none {H : Type} : Left H := { results := [], args := [] }

/-- 'scrivenerlaw02.RectHas': WHATEVER THE INPUT: true; the input reads as it did. -/
def rectHasSpec : ChangeSpec := { name := "rectHas", fn := fun _ => fun
  | [d1, d2, d3] => { results := [.lit (.bool true)], args := [d1, d2, d3] }
  | _ => none }
def rectHasRow : OpenClaim := { program := "ytddmhonhajfehaa", sum := "8fb194d27a50ba2b742bfd5969951eefbb1687ca6447f25674b046f7d8fee9c6", func := "scrivener/scrivenerlaw02.RectHas", spec := "rectHas", apart := false }
def RectHasSaid : Prop := rectHasRow.holds Try.pinned (OpenSpec.ofChange rectHasSpec)

/-- ITS FALSE NEIGHBOUR: 'it returns false'. Refute it at one input. -/
def rectHasWrong : ChangeSpec := { name := "rectHas", fn := fun _ => fun
  | [d1, d2, d3] => { results := [.lit (.bool false)], args := [d1, d2, d3] }
  | _ => none }
def RectHasWrongFalsely : Prop := rectHasRow.holds Try.pinned (OpenSpec.ofChange rectHasWrong)

/-- 'scrivenerlaw02.RectMeets': WHATEVER THE INPUT: true; the input reads as it did. -/
def rectMeetsSpec : ChangeSpec := { name := "rectMeets", fn := fun _ => fun
  | [d1, d2, d3] => { results := [.lit (.bool true)], args := [d1, d2, d3] }
  | _ => none }
def rectMeetsRow : OpenClaim := { program := "ytddmhonhajfehaa", sum := "8fb194d27a50ba2b742bfd5969951eefbb1687ca6447f25674b046f7d8fee9c6", func := "scrivener/scrivenerlaw02.RectMeets", spec := "rectMeets", apart := false }
def RectMeetsSaid : Prop := rectMeetsRow.holds Try.pinned (OpenSpec.ofChange rectMeetsSpec)

/-- ITS FALSE NEIGHBOUR: 'it returns false'. Refute it at one input. -/
def rectMeetsWrong : ChangeSpec := { name := "rectMeets", fn := fun _ => fun
  | [d1, d2, d3] => { results := [.lit (.bool false)], args := [d1, d2, d3] }
  | _ => none }
def RectMeetsWrongFalsely : Prop := rectMeetsRow.holds Try.pinned (OpenSpec.ofChange rectMeetsWrong)

/-- 'scrivenerlaw02.RectLess': WHATEVER THE INPUT: true; the input reads as it did. -/
def rectLessSpec : ChangeSpec := { name := "rectLess", fn := fun _ => fun
  | [d1, d2, d3] => { results := [.lit (.bool true)], args := [d1, d2, d3] }
  | _ => none }
def rectLessRow : OpenClaim := { program := "ytddmhonhajfehaa", sum := "8fb194d27a50ba2b742bfd5969951eefbb1687ca6447f25674b046f7d8fee9c6", func := "scrivener/scrivenerlaw02.RectLess", spec := "rectLess", apart := false }
def RectLessSaid : Prop := rectLessRow.holds Try.pinned (OpenSpec.ofChange rectLessSpec)

/-- ITS FALSE NEIGHBOUR: 'it returns false'. Refute it at one input. -/
def rectLessWrong : ChangeSpec := { name := "rectLess", fn := fun _ => fun
  | [d1, d2, d3] => { results := [.lit (.bool false)], args := [d1, d2, d3] }
  | _ => none }
def RectLessWrongFalsely : Prop := rectLessRow.holds Try.pinned (OpenSpec.ofChange rectLessWrong)

/-- 'scrivenerlaw02.RectParts': WHATEVER THE INPUT: true; the input reads as it did. -/
def rectPartsSpec : ChangeSpec := { name := "rectParts", fn := fun _ => fun
  | [d1, d2] => { results := [.lit (.bool true)], args := [d1, d2] }
  | _ => none }
def rectPartsRow : OpenClaim := { program := "ytddmhonhajfehaa", sum := "8fb194d27a50ba2b742bfd5969951eefbb1687ca6447f25674b046f7d8fee9c6", func := "scrivener/scrivenerlaw02.RectParts", spec := "rectParts", apart := false }
def RectPartsSaid : Prop := rectPartsRow.holds Try.pinned (OpenSpec.ofChange rectPartsSpec)

/-- ITS FALSE NEIGHBOUR: 'it returns false'. Refute it at one input. -/
def rectPartsWrong : ChangeSpec := { name := "rectParts", fn := fun _ => fun
  | [d1, d2] => { results := [.lit (.bool false)], args := [d1, d2] }
  | _ => none }
def RectPartsWrongFalsely : Prop := rectPartsRow.holds Try.pinned (OpenSpec.ofChange rectPartsWrong)

/- THE SECOND FORM. 'bulk': how many values and letters a reading holds, each counted each time it is reached (what is shared counts as often as it is met; a slice's spare places count too). A statement '..UptoSaid' is the law's where the arguments, and the package variables that the reading takes, are together of bulk at most 1048576: NARROWER than '..Said'. Prove '..Said' where nothing that the law and all that it calls make is longer than what came in: it says more and counts as full. Else prove '..UptoSaid'. A law counts once. -/
mutual
def uptoBulk {H : Type} : DataW H → Nat
  | .lit (.string bytes) => bytes.length + 1
  | .lit _ => 1
  | .nil => 1
  | .ptr d => uptoBulk d + 1
  | .slice elems spare => uptoBulkAll elems + uptoBulkAll spare + 1
  | .agg parts => uptoBulkAll parts + 1
  | .iface _ d => uptoBulk d + 1
  | .map entries => uptoBulkEntries entries + 1
  | .held _ => 1
def uptoBulkAll {H : Type} : List (DataW H) → Nat
  | [] => 0
  | d :: r => uptoBulk d + uptoBulkAll r
def uptoBulkEntries {H : Type} : List (Lit × DataW H) → Nat
  | [] => 0
  | x :: r => uptoBulkEntry x + uptoBulkEntries r
def uptoBulkEntry {H : Type} : Lit × DataW H → Nat
  | (.string bytes, d) => bytes.length + uptoBulk d + 1
  | (_, d) => uptoBulk d + 1
 end
def uptoSmall : (H : Type) → List (DataW H) → Bool := fun _ ds => decide (uptoBulkAll ds ≤ 1048576)
def OpenSpec.upto (s : _root_.Go.ChangeSpec) : _root_.Go.OpenSpec := { _root_.Go.OpenSpec.ofChange s with cond := some uptoSmall }

/-- 'scrivenerlaw02.RectHas', WHERE WHAT IT READS IS OF BULK AT MOST 1048576: true; the input reads as it did. -/
def rectHasUptoRow : OpenClaim := { program := "ytddmhonhajfehaa", sum := "8fb194d27a50ba2b742bfd5969951eefbb1687ca6447f25674b046f7d8fee9c6", func := "scrivener/scrivenerlaw02.RectHas", spec := "rectHas", apart := false, narrowed := true }
def RectHasUptoSaid : Prop := rectHasUptoRow.holds Try.pinned (OpenSpec.upto rectHasSpec)

/-- 'scrivenerlaw02.RectMeets', WHERE WHAT IT READS IS OF BULK AT MOST 1048576: true; the input reads as it did. -/
def rectMeetsUptoRow : OpenClaim := { program := "ytddmhonhajfehaa", sum := "8fb194d27a50ba2b742bfd5969951eefbb1687ca6447f25674b046f7d8fee9c6", func := "scrivener/scrivenerlaw02.RectMeets", spec := "rectMeets", apart := false, narrowed := true }
def RectMeetsUptoSaid : Prop := rectMeetsUptoRow.holds Try.pinned (OpenSpec.upto rectMeetsSpec)

/-- 'scrivenerlaw02.RectLess', WHERE WHAT IT READS IS OF BULK AT MOST 1048576: true; the input reads as it did. -/
def rectLessUptoRow : OpenClaim := { program := "ytddmhonhajfehaa", sum := "8fb194d27a50ba2b742bfd5969951eefbb1687ca6447f25674b046f7d8fee9c6", func := "scrivener/scrivenerlaw02.RectLess", spec := "rectLess", apart := false, narrowed := true }
def RectLessUptoSaid : Prop := rectLessUptoRow.holds Try.pinned (OpenSpec.upto rectLessSpec)

/-- 'scrivenerlaw02.RectParts', WHERE WHAT IT READS IS OF BULK AT MOST 1048576: true; the input reads as it did. -/
def rectPartsUptoRow : OpenClaim := { program := "ytddmhonhajfehaa", sum := "8fb194d27a50ba2b742bfd5969951eefbb1687ca6447f25674b046f7d8fee9c6", func := "scrivener/scrivenerlaw02.RectParts", spec := "rectParts", apart := false, narrowed := true }
def RectPartsUptoSaid : Prop := rectPartsUptoRow.holds Try.pinned (OpenSpec.upto rectPartsSpec)

end Rows
end Go.Proofs.Ytddmhonhajfehaa
