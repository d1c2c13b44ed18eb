/-
  No cell of these rows narrows 'for every input' (looked for: loops, veiled, ifaces, maps, wideKeys, modest, calm, conditions, laid).
  DERIVED. THE GIVEN ROWS OF THIS SEAT. 3 by the template 'for every input the law returns true; each argument reads behind the call as it read before'; 0 by the template 'total and deterministic' (their statements: YtkobnijjahpifaaTotals.lean).
  GIVEN WITH THE SEED: the statements are not yours to turn. If you find one false, say at which input.
  Laid BY PROGRAM, IN A SANDBOX (cutbox-rows.mjs): the forced cells as the released guide's own fill.sh prints them over the translation 4768deaf2b171cee… (all of the seat's roots in one cut). By AI agents, Wed Nov 11 2026. No macro, syntax, notation, axiom, sorry.
-/
import Derived.Test.YtkobnijjahpifaaChecked
import GoSem.Claim
import GoSem.ClaimJoined
import GoSem.ClaimMapViews
import Derived.JoinedTies
import Derived.KernelRfl
namespace Go.Proofs.Ytkobnijjahpifaa
/- THE CELL 'sum', in the pinned program and in every row, IS THE sha256 OF THE DUMP (.gsa) THAT YtkobnijjahpifaaProg.lean LOADS. Nothing in Lean hashes anything: it is a label: what it is worth is what the hold of that sum in a sandbox is worth. -/
noncomputable def Try.pinned : Pinned := { name := "ytkobnijjahpifaa", sum := "4768deaf2b171cee2427d025dcc7d876ba320c9bb5b059ce70393b591eaaf5f6", checked := Try.checked }
namespace Rows
def none {H : Type} : Left H := { results := [], args := [] }

/-- 'scrivenerlaw15.CaretsTidies': WHATEVER THE INPUT: true; the input reads as it did. -/
def caretsTidiesSpec : ChangeSpec := { name := "caretsTidies", fn := fun _ => fun
  | [d1, d2, d3] => { results := [.lit (.bool true)], args := [d1, d2, d3] }
  | _ => none }
def caretsTidiesRow : OpenClaim := { program := "ytkobnijjahpifaa", sum := "4768deaf2b171cee2427d025dcc7d876ba320c9bb5b059ce70393b591eaaf5f6", func := "scrivener/scrivenerlaw15.CaretsTidies", spec := "caretsTidies", unfollowed := true, recurses := true, apart := false }
def CaretsTidiesSaid : Prop := caretsTidiesRow.holds Try.pinned (OpenSpec.ofChange caretsTidiesSpec)

/-- ITS FALSE NEIGHBOUR: 'it returns false'. Refute it at one input. -/
def caretsTidiesWrong : ChangeSpec := { name := "caretsTidies", fn := fun _ => fun
  | [d1, d2, d3] => { results := [.lit (.bool false)], args := [d1, d2, d3] }
  | _ => none }
def CaretsTidiesWrongFalsely : Prop := caretsTidiesRow.holds Try.pinned (OpenSpec.ofChange caretsTidiesWrong)

/-- 'scrivenerlaw15.CaretsTells': WHATEVER THE INPUT: true; the input reads as it did. -/
def caretsTellsSpec : ChangeSpec := { name := "caretsTells", fn := fun _ => fun
  | [d1, d2, d3] => { results := [.lit (.bool true)], args := [d1, d2, d3] }
  | _ => none }
def caretsTellsRow : OpenClaim := { program := "ytkobnijjahpifaa", sum := "4768deaf2b171cee2427d025dcc7d876ba320c9bb5b059ce70393b591eaaf5f6", func := "scrivener/scrivenerlaw15.CaretsTells", spec := "caretsTells", unfollowed := true, recurses := true, apart := false }
def CaretsTellsSaid : Prop := caretsTellsRow.holds Try.pinned (OpenSpec.ofChange caretsTellsSpec)

/-- ITS FALSE NEIGHBOUR: 'it returns false'. Refute it at one input. -/
def caretsTellsWrong : ChangeSpec := { name := "caretsTells", fn := fun _ => fun
  | [d1, d2, d3] => { results := [.lit (.bool false)], args := [d1, d2, d3] }
  | _ => none }
def CaretsTellsWrongFalsely : Prop := caretsTellsRow.holds Try.pinned (OpenSpec.ofChange caretsTellsWrong)

/-- 'scrivenerlaw15.CaretsMoves': WHATEVER THE INPUT: true; the input reads as it did. -/
def caretsMovesSpec : ChangeSpec := { name := "caretsMoves", fn := fun _ => fun
  | [d1, d2, d3] => { results := [.lit (.bool true)], args := [d1, d2, d3] }
  | _ => none }
def caretsMovesRow : OpenClaim := { program := "ytkobnijjahpifaa", sum := "4768deaf2b171cee2427d025dcc7d876ba320c9bb5b059ce70393b591eaaf5f6", func := "scrivener/scrivenerlaw15.CaretsMoves", spec := "caretsMoves", unfollowed := true, recurses := true, apart := false }
def CaretsMovesSaid : Prop := caretsMovesRow.holds Try.pinned (OpenSpec.ofChange caretsMovesSpec)

/-- ITS FALSE NEIGHBOUR: 'it returns false'. Refute it at one input. -/
def caretsMovesWrong : ChangeSpec := { name := "caretsMoves", fn := fun _ => fun
  | [d1, d2, d3] => { results := [.lit (.bool false)], args := [d1, d2, d3] }
  | _ => none }
def CaretsMovesWrongFalsely : Prop := caretsMovesRow.holds Try.pinned (OpenSpec.ofChange caretsMovesWrong)

/- THE SECOND FORM. 'bulk': how many values and letters a reading holds, each counted each time it is reached (what is shared counts as often as it is met; a slice's spare places count too). A statement '..UptoSaid' is the law's where the arguments, and the package variables that the reading takes, are together of bulk at most 1048576: NARROWER than '..Said'. Prove '..Said' where nothing that the law and all that it calls make is longer than what came in: it says more and counts as full. Else prove '..UptoSaid'. A law counts once. -/
mutual
def uptoBulk {H : Type} : DataW H → Nat
  | .lit (.string bytes) => bytes.length + 1
  | .lit _ => 1
  | .nil => 1
  | .ptr d => uptoBulk d + 1
  | .slice elems spare => uptoBulkAll elems + uptoBulkAll spare + 1
  | .agg parts => uptoBulkAll parts + 1
  | .iface _ d => uptoBulk d + 1
  | .map entries => uptoBulkEntries entries + 1
  | .held _ => 1
def uptoBulkAll {H : Type} : List (DataW H) → Nat
  | [] => 0
  | d :: r => uptoBulk d + uptoBulkAll r
def uptoBulkEntries {H : Type} : List (Lit × DataW H) → Nat
  | [] => 0
  | x :: r => uptoBulkEntry x + uptoBulkEntries r
def uptoBulkEntry {H : Type} : Lit × DataW H → Nat
  | (.string bytes, d) => bytes.length + uptoBulk d + 1
  | (_, d) => uptoBulk d + 1
 end
def uptoSmall : (H : Type) → List (DataW H) → Bool := fun _ ds => decide (uptoBulkAll ds ≤ 1048576)
def OpenSpec.upto (s : _root_.Go.ChangeSpec) : _root_.Go.OpenSpec := { _root_.Go.OpenSpec.ofChange s with cond := some uptoSmall }

/-- 'scrivenerlaw15.CaretsTidies', WHERE WHAT IT READS IS OF BULK AT MOST 1048576: true; the input reads as it did. -/
def caretsTidiesUptoRow : OpenClaim := { program := "ytkobnijjahpifaa", sum := "4768deaf2b171cee2427d025dcc7d876ba320c9bb5b059ce70393b591eaaf5f6", func := "scrivener/scrivenerlaw15.CaretsTidies", spec := "caretsTidies", unfollowed := true, recurses := true, apart := false, narrowed := true }
def CaretsTidiesUptoSaid : Prop := caretsTidiesUptoRow.holds Try.pinned (OpenSpec.upto caretsTidiesSpec)

/-- 'scrivenerlaw15.CaretsTells', WHERE WHAT IT READS IS OF BULK AT MOST 1048576: true; the input reads as it did. -/
def caretsTellsUptoRow : OpenClaim := { program := "ytkobnijjahpifaa", sum := "4768deaf2b171cee2427d025dcc7d876ba320c9bb5b059ce70393b591eaaf5f6", func := "scrivener/scrivenerlaw15.CaretsTells", spec := "caretsTells", unfollowed := true, recurses := true, apart := false, narrowed := true }
def CaretsTellsUptoSaid : Prop := caretsTellsUptoRow.holds Try.pinned (OpenSpec.upto caretsTellsSpec)

/-- 'scrivenerlaw15.CaretsMoves', WHERE WHAT IT READS IS OF BULK AT MOST 1048576: true; the input reads as it did. -/
def caretsMovesUptoRow : OpenClaim := { program := "ytkobnijjahpifaa", sum := "4768deaf2b171cee2427d025dcc7d876ba320c9bb5b059ce70393b591eaaf5f6", func := "scrivener/scrivenerlaw15.CaretsMoves", spec := "caretsMoves", unfollowed := true, recurses := true, apart := false, narrowed := true }
def CaretsMovesUptoSaid : Prop := caretsMovesUptoRow.holds Try.pinned (OpenSpec.upto caretsMovesSpec)

end Rows
end Go.Proofs.Ytkobnijjahpifaa
