/-
  No cell of these rows narrows 'for every input' (looked for: loops, veiled, ifaces, maps, wideKeys, modest, calm, conditions, laid).
  DERIVED. THE GIVEN ROWS OF THIS SEAT. 4 by the template 'for every input the law returns true; each argument reads behind the call as it read before'; 0 by the template 'total and deterministic' (their statements: YtcbcbblclpongaaTotals.lean).
  GIVEN WITH THE SEED: the statements are not yours to turn. If you find one false, say at which input.
  Laid BY PROGRAM, IN A SANDBOX (cutbox-rows.mjs): the forced cells as the released guide's own fill.sh prints them over the translation 5bd3c09c01442713… (all of the seat's roots in one cut). By AI agents, Wed Nov 11 2026. No macro, syntax, notation, axiom, sorry.
-/
import Derived.Test.YtcbcbblclpongaaChecked
import GoSem.Claim
import GoSem.ClaimJoined
import GoSem.ClaimMapViews
import Derived.JoinedTies
import Derived.KernelRfl
namespace Go.Proofs.Ytcbcbblclpongaa
/- THE CELL 'sum', in the pinned program and in every row, IS THE sha256 OF THE DUMP (.gsa) THAT YtcbcbblclpongaaProg.lean LOADS. Nothing in Lean hashes anything: it is a label: what it is worth is what the hold of that sum in a sandbox is worth. -/
noncomputable def Try.pinned : Pinned := { name := "ytcbcbblclpongaa", sum := "5bd3c09c014427139d06d07b0b73102a1d4327e37bfcd1c6e9fe99fb0b303a1c", checked := Try.checked }
namespace Rows
def none {H : Type} : Left H := { results := [], args := [] }

/-- 'scrivenerlaw18.WrapRows': WHATEVER THE INPUT: true; the input reads as it did. -/
def wrapRowsSpec : ChangeSpec := { name := "wrapRows", fn := fun _ => fun
  | [d1, d2] => { results := [.lit (.bool true)], args := [d1, d2] }
  | _ => none }
def wrapRowsRow : OpenClaim := { program := "ytcbcbblclpongaa", sum := "5bd3c09c014427139d06d07b0b73102a1d4327e37bfcd1c6e9fe99fb0b303a1c", func := "scrivener/scrivenerlaw18.WrapRows", spec := "wrapRows", apart := false }
def WrapRowsSaid : Prop := wrapRowsRow.holds Try.pinned (OpenSpec.ofChange wrapRowsSpec)

/-- ITS FALSE NEIGHBOUR: 'it returns false'. Refute it at one input. -/
def wrapRowsWrong : ChangeSpec := { name := "wrapRows", fn := fun _ => fun
  | [d1, d2] => { results := [.lit (.bool false)], args := [d1, d2] }
  | _ => none }
def WrapRowsWrongFalsely : Prop := wrapRowsRow.holds Try.pinned (OpenSpec.ofChange wrapRowsWrong)

/-- 'scrivenerlaw18.WrapAll': WHATEVER THE INPUT: true; the input reads as it did. -/
def wrapAllSpec : ChangeSpec := { name := "wrapAll", fn := fun _ => fun
  | [d1, d2] => { results := [.lit (.bool true)], args := [d1, d2] }
  | _ => none }
def wrapAllRow : OpenClaim := { program := "ytcbcbblclpongaa", sum := "5bd3c09c014427139d06d07b0b73102a1d4327e37bfcd1c6e9fe99fb0b303a1c", func := "scrivener/scrivenerlaw18.WrapAll", spec := "wrapAll", apart := false }
def WrapAllSaid : Prop := wrapAllRow.holds Try.pinned (OpenSpec.ofChange wrapAllSpec)

/-- ITS FALSE NEIGHBOUR: 'it returns false'. Refute it at one input. -/
def wrapAllWrong : ChangeSpec := { name := "wrapAll", fn := fun _ => fun
  | [d1, d2] => { results := [.lit (.bool false)], args := [d1, d2] }
  | _ => none }
def WrapAllWrongFalsely : Prop := wrapAllRow.holds Try.pinned (OpenSpec.ofChange wrapAllWrong)

/-- 'scrivenerlaw18.WrapOf': WHATEVER THE INPUT: true; the input reads as it did. -/
def wrapOfSpec : ChangeSpec := { name := "wrapOf", fn := fun _ => fun
  | [d1, d2] => { results := [.lit (.bool true)], args := [d1, d2] }
  | _ => none }
def wrapOfRow : OpenClaim := { program := "ytcbcbblclpongaa", sum := "5bd3c09c014427139d06d07b0b73102a1d4327e37bfcd1c6e9fe99fb0b303a1c", func := "scrivener/scrivenerlaw18.WrapOf", spec := "wrapOf", apart := false }
def WrapOfSaid : Prop := wrapOfRow.holds Try.pinned (OpenSpec.ofChange wrapOfSpec)

/-- ITS FALSE NEIGHBOUR: 'it returns false'. Refute it at one input. -/
def wrapOfWrong : ChangeSpec := { name := "wrapOf", fn := fun _ => fun
  | [d1, d2] => { results := [.lit (.bool false)], args := [d1, d2] }
  | _ => none }
def WrapOfWrongFalsely : Prop := wrapOfRow.holds Try.pinned (OpenSpec.ofChange wrapOfWrong)

/-- 'scrivenerlaw18.WrapWide': WHATEVER THE INPUT: true; the input reads as it did. -/
def wrapWideSpec : ChangeSpec := { name := "wrapWide", fn := fun _ => fun
  | [d1, d2] => { results := [.lit (.bool true)], args := [d1, d2] }
  | _ => none }
def wrapWideRow : OpenClaim := { program := "ytcbcbblclpongaa", sum := "5bd3c09c014427139d06d07b0b73102a1d4327e37bfcd1c6e9fe99fb0b303a1c", func := "scrivener/scrivenerlaw18.WrapWide", spec := "wrapWide", apart := false }
def WrapWideSaid : Prop := wrapWideRow.holds Try.pinned (OpenSpec.ofChange wrapWideSpec)

/-- ITS FALSE NEIGHBOUR: 'it returns false'. Refute it at one input. -/
def wrapWideWrong : ChangeSpec := { name := "wrapWide", fn := fun _ => fun
  | [d1, d2] => { results := [.lit (.bool false)], args := [d1, d2] }
  | _ => none }
def WrapWideWrongFalsely : Prop := wrapWideRow.holds Try.pinned (OpenSpec.ofChange wrapWideWrong)

/- THE SECOND FORM. 'bulk': how many values and letters a reading holds, each counted each time it is reached (what is shared counts as often as it is met; a slice's spare places count too). A statement '..UptoSaid' is the law's where the arguments, and the package variables that the reading takes, are together of bulk at most 1048576: NARROWER than '..Said'. Prove '..Said' where nothing that the law and all that it calls make is longer than what came in: it says more and counts as full. Else prove '..UptoSaid'. A law counts once. -/
mutual
def uptoBulk {H : Type} : DataW H → Nat
  | .lit (.string bytes) => bytes.length + 1
  | .lit _ => 1
  | .nil => 1
  | .ptr d => uptoBulk d + 1
  | .slice elems spare => uptoBulkAll elems + uptoBulkAll spare + 1
  | .agg parts => uptoBulkAll parts + 1
  | .iface _ d => uptoBulk d + 1
  | .map entries => uptoBulkEntries entries + 1
  | .held _ => 1
def uptoBulkAll {H : Type} : List (DataW H) → Nat
  | [] => 0
  | d :: r => uptoBulk d + uptoBulkAll r
def uptoBulkEntries {H : Type} : List (Lit × DataW H) → Nat
  | [] => 0
  | x :: r => uptoBulkEntry x + uptoBulkEntries r
def uptoBulkEntry {H : Type} : Lit × DataW H → Nat
  | (.string bytes, d) => bytes.length + uptoBulk d + 1
  | (_, d) => uptoBulk d + 1
 end
def uptoSmall : (H : Type) → List (DataW H) → Bool := fun _ ds => decide (uptoBulkAll ds ≤ 1048576)
def OpenSpec.upto (s : _root_.Go.ChangeSpec) : _root_.Go.OpenSpec := { _root_.Go.OpenSpec.ofChange s with cond := some uptoSmall }

/-- 'scrivenerlaw18.WrapRows', WHERE WHAT IT READS IS OF BULK AT MOST 1048576: true; the input reads as it did. -/
def wrapRowsUptoRow : OpenClaim := { program := "ytcbcbblclpongaa", sum := "5bd3c09c014427139d06d07b0b73102a1d4327e37bfcd1c6e9fe99fb0b303a1c", func := "scrivener/scrivenerlaw18.WrapRows", spec := "wrapRows", apart := false, narrowed := true }
def WrapRowsUptoSaid : Prop := wrapRowsUptoRow.holds Try.pinned (OpenSpec.upto wrapRowsSpec)

/-- 'scrivenerlaw18.WrapAll', WHERE WHAT IT READS IS OF BULK AT MOST 1048576: true; the input reads as it did. -/
def wrapAllUptoRow : OpenClaim := { program := "ytcbcbblclpongaa", sum := "5bd3c09c014427139d06d07b0b73102a1d4327e37bfcd1c6e9fe99fb0b303a1c", func := "scrivener/scrivenerlaw18.WrapAll", spec := "wrapAll", apart := false, narrowed := true }
def WrapAllUptoSaid : Prop := wrapAllUptoRow.holds Try.pinned (OpenSpec.upto wrapAllSpec)

/-- 'scrivenerlaw18.WrapOf', WHERE WHAT IT READS IS OF BULK AT MOST 1048576: true; the input reads as it did. -/
def wrapOfUptoRow : OpenClaim := { program := "ytcbcbblclpongaa", sum := "5bd3c09c014427139d06d07b0b73102a1d4327e37bfcd1c6e9fe99fb0b303a1c", func := "scrivener/scrivenerlaw18.WrapOf", spec := "wrapOf", apart := false, narrowed := true }
def WrapOfUptoSaid : Prop := wrapOfUptoRow.holds Try.pinned (OpenSpec.upto wrapOfSpec)

/-- 'scrivenerlaw18.WrapWide', WHERE WHAT IT READS IS OF BULK AT MOST 1048576: true; the input reads as it did. -/
def wrapWideUptoRow : OpenClaim := { program := "ytcbcbblclpongaa", sum := "5bd3c09c014427139d06d07b0b73102a1d4327e37bfcd1c6e9fe99fb0b303a1c", func := "scrivener/scrivenerlaw18.WrapWide", spec := "wrapWide", apart := false, narrowed := true }
def WrapWideUptoSaid : Prop := wrapWideUptoRow.holds Try.pinned (OpenSpec.upto wrapWideSpec)

end Rows
end Go.Proofs.Ytcbcbblclpongaa
