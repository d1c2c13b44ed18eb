/-
  No cell of these rows narrows 'for every input' (looked for: loops, veiled, ifaces, maps, wideKeys, modest, calm, conditions, laid).
  DERIVED. THE GIVEN ROWS OF THIS SEAT. 4 by the template 'for every input the law returns true; each argument reads behind the call as it read before'; 0 by the template 'total and deterministic' (their statements: YtibeoohjdinceaaTotals.lean).
  GIVEN WITH THE SEED: the statements are not yours to turn. If you find one false, say at which input.
  Laid BY PROGRAM, IN A SANDBOX (cutbox-rows.mjs): the forced cells as the released guide's own fill.sh prints them over the translation 1ac3a46e9a8f5169… (all of the seat's roots in one cut). By AI agents, Wed Nov 11 2026. No macro, syntax, notation, axiom, sorry.
-/
import Derived.Test.YtibeoohjdinceaaChecked
import GoSem.Claim
import GoSem.ClaimJoined
import GoSem.ClaimMapViews
import Derived.JoinedTies
import Derived.KernelRfl
namespace Go.Proofs.Ytibeoohjdinceaa
/- THE CELL 'sum', in the pinned program and in every row, IS THE sha256 OF THE DUMP (.gsa) THAT YtibeoohjdinceaaProg.lean LOADS. Nothing in Lean hashes anything: it is a label: what it is worth is what the hold of that sum in a sandbox is worth. -/
noncomputable def Try.pinned : Pinned := { name := "ytibeoohjdinceaa", sum := "1ac3a46e9a8f51695273e37f57f677cf547c4b82ff7f13526400f4e5a30a1d4a", checked := Try.checked }
namespace Rows
def none {H : Type} : Left H := { results := [], args := [] }

/-- 'scrivenerlaw13.MarkMoves': WHATEVER THE INPUT: true; the input reads as it did. -/
def markMovesSpec : ChangeSpec := { name := "markMoves", fn := fun _ => fun
  | [d1, d2] => { results := [.lit (.bool true)], args := [d1, d2] }
  | _ => none }
def markMovesRow : OpenClaim := { program := "ytibeoohjdinceaa", sum := "1ac3a46e9a8f51695273e37f57f677cf547c4b82ff7f13526400f4e5a30a1d4a", func := "scrivener/scrivenerlaw13.MarkMoves", spec := "markMoves", apart := false }
def MarkMovesSaid : Prop := markMovesRow.holds Try.pinned (OpenSpec.ofChange markMovesSpec)

/-- ITS FALSE NEIGHBOUR: 'it returns false'. Refute it at one input. -/
def markMovesWrong : ChangeSpec := { name := "markMoves", fn := fun _ => fun
  | [d1, d2] => { results := [.lit (.bool false)], args := [d1, d2] }
  | _ => none }
def MarkMovesWrongFalsely : Prop := markMovesRow.holds Try.pinned (OpenSpec.ofChange markMovesWrong)

/-- 'scrivenerlaw13.MarkEdits': WHATEVER THE INPUT: true; the input reads as it did. -/
def markEditsSpec : ChangeSpec := { name := "markEdits", fn := fun _ => fun
  | [d1, d2] => { results := [.lit (.bool true)], args := [d1, d2] }
  | _ => none }
def markEditsRow : OpenClaim := { program := "ytibeoohjdinceaa", sum := "1ac3a46e9a8f51695273e37f57f677cf547c4b82ff7f13526400f4e5a30a1d4a", func := "scrivener/scrivenerlaw13.MarkEdits", spec := "markEdits", apart := false }
def MarkEditsSaid : Prop := markEditsRow.holds Try.pinned (OpenSpec.ofChange markEditsSpec)

/-- ITS FALSE NEIGHBOUR: 'it returns false'. Refute it at one input. -/
def markEditsWrong : ChangeSpec := { name := "markEdits", fn := fun _ => fun
  | [d1, d2] => { results := [.lit (.bool false)], args := [d1, d2] }
  | _ => none }
def MarkEditsWrongFalsely : Prop := markEditsRow.holds Try.pinned (OpenSpec.ofChange markEditsWrong)

/-- 'scrivenerlaw13.MarkSpans': WHATEVER THE INPUT: true; the input reads as it did. -/
def markSpansSpec : ChangeSpec := { name := "markSpans", fn := fun _ => fun
  | [d1, d2] => { results := [.lit (.bool true)], args := [d1, d2] }
  | _ => none }
def markSpansRow : OpenClaim := { program := "ytibeoohjdinceaa", sum := "1ac3a46e9a8f51695273e37f57f677cf547c4b82ff7f13526400f4e5a30a1d4a", func := "scrivener/scrivenerlaw13.MarkSpans", spec := "markSpans", apart := false }
def MarkSpansSaid : Prop := markSpansRow.holds Try.pinned (OpenSpec.ofChange markSpansSpec)

/-- ITS FALSE NEIGHBOUR: 'it returns false'. Refute it at one input. -/
def markSpansWrong : ChangeSpec := { name := "markSpans", fn := fun _ => fun
  | [d1, d2] => { results := [.lit (.bool false)], args := [d1, d2] }
  | _ => none }
def MarkSpansWrongFalsely : Prop := markSpansRow.holds Try.pinned (OpenSpec.ofChange markSpansWrong)

/-- 'scrivenerlaw13.MarkKeeps': WHATEVER THE INPUT: true; the input reads as it did. -/
def markKeepsSpec : ChangeSpec := { name := "markKeeps", fn := fun _ => fun
  | [d1, d2, d3] => { results := [.lit (.bool true)], args := [d1, d2, d3] }
  | _ => none }
def markKeepsRow : OpenClaim := { program := "ytibeoohjdinceaa", sum := "1ac3a46e9a8f51695273e37f57f677cf547c4b82ff7f13526400f4e5a30a1d4a", func := "scrivener/scrivenerlaw13.MarkKeeps", spec := "markKeeps", apart := false }
def MarkKeepsSaid : Prop := markKeepsRow.holds Try.pinned (OpenSpec.ofChange markKeepsSpec)

/-- ITS FALSE NEIGHBOUR: 'it returns false'. Refute it at one input. -/
def markKeepsWrong : ChangeSpec := { name := "markKeeps", fn := fun _ => fun
  | [d1, d2, d3] => { results := [.lit (.bool false)], args := [d1, d2, d3] }
  | _ => none }
def MarkKeepsWrongFalsely : Prop := markKeepsRow.holds Try.pinned (OpenSpec.ofChange markKeepsWrong)

/- THE SECOND FORM. 'bulk': how many values and letters a reading holds, each counted each time it is reached (what is shared counts as often as it is met; a slice's spare places count too). A statement '..UptoSaid' is the law's where the arguments, and the package variables that the reading takes, are together of bulk at most 1048576: NARROWER than '..Said'. Prove '..Said' where nothing that the law and all that it calls make is longer than what came in: it says more and counts as full. Else prove '..UptoSaid'. A law counts once. -/
mutual
def uptoBulk {H : Type} : DataW H → Nat
  | .lit (.string bytes) => bytes.length + 1
  | .lit _ => 1
  | .nil => 1
  | .ptr d => uptoBulk d + 1
  | .slice elems spare => uptoBulkAll elems + uptoBulkAll spare + 1
  | .agg parts => uptoBulkAll parts + 1
  | .iface _ d => uptoBulk d + 1
  | .map entries => uptoBulkEntries entries + 1
  | .held _ => 1
def uptoBulkAll {H : Type} : List (DataW H) → Nat
  | [] => 0
  | d :: r => uptoBulk d + uptoBulkAll r
def uptoBulkEntries {H : Type} : List (Lit × DataW H) → Nat
  | [] => 0
  | x :: r => uptoBulkEntry x + uptoBulkEntries r
def uptoBulkEntry {H : Type} : Lit × DataW H → Nat
  | (.string bytes, d) => bytes.length + uptoBulk d + 1
  | (_, d) => uptoBulk d + 1
 end
def uptoSmall : (H : Type) → List (DataW H) → Bool := fun _ ds => decide (uptoBulkAll ds ≤ 1048576)
def OpenSpec.upto (s : _root_.Go.ChangeSpec) : _root_.Go.OpenSpec := { _root_.Go.OpenSpec.ofChange s with cond := some uptoSmall }

/-- 'scrivenerlaw13.MarkMoves', WHERE WHAT IT READS IS OF BULK AT MOST 1048576: true; the input reads as it did. -/
def markMovesUptoRow : OpenClaim := { program := "ytibeoohjdinceaa", sum := "1ac3a46e9a8f51695273e37f57f677cf547c4b82ff7f13526400f4e5a30a1d4a", func := "scrivener/scrivenerlaw13.MarkMoves", spec := "markMoves", apart := false, narrowed := true }
def MarkMovesUptoSaid : Prop := markMovesUptoRow.holds Try.pinned (OpenSpec.upto markMovesSpec)

/-- 'scrivenerlaw13.MarkEdits', WHERE WHAT IT READS IS OF BULK AT MOST 1048576: true; the input reads as it did. -/
def markEditsUptoRow : OpenClaim := { program := "ytibeoohjdinceaa", sum := "1ac3a46e9a8f51695273e37f57f677cf547c4b82ff7f13526400f4e5a30a1d4a", func := "scrivener/scrivenerlaw13.MarkEdits", spec := "markEdits", apart := false, narrowed := true }
def MarkEditsUptoSaid : Prop := markEditsUptoRow.holds Try.pinned (OpenSpec.upto markEditsSpec)

/-- 'scrivenerlaw13.MarkSpans', WHERE WHAT IT READS IS OF BULK AT MOST 1048576: true; the input reads as it did. -/
def markSpansUptoRow : OpenClaim := { program := "ytibeoohjdinceaa", sum := "1ac3a46e9a8f51695273e37f57f677cf547c4b82ff7f13526400f4e5a30a1d4a", func := "scrivener/scrivenerlaw13.MarkSpans", spec := "markSpans", apart := false, narrowed := true }
def MarkSpansUptoSaid : Prop := markSpansUptoRow.holds Try.pinned (OpenSpec.upto markSpansSpec)

/-- 'scrivenerlaw13.MarkKeeps', WHERE WHAT IT READS IS OF BULK AT MOST 1048576: true; the input reads as it did. -/
def markKeepsUptoRow : OpenClaim := { program := "ytibeoohjdinceaa", sum := "1ac3a46e9a8f51695273e37f57f677cf547c4b82ff7f13526400f4e5a30a1d4a", func := "scrivener/scrivenerlaw13.MarkKeeps", spec := "markKeeps", apart := false, narrowed := true }
def MarkKeepsUptoSaid : Prop := markKeepsUptoRow.holds Try.pinned (OpenSpec.upto markKeepsSpec)

end Rows
end Go.Proofs.Ytibeoohjdinceaa
