/-
  No cell of these rows narrows 'for every input' (looked for: loops, veiled, ifaces, maps, wideKeys, modest, calm, conditions, laid).
  DERIVED. THE GIVEN ROWS OF THIS SEAT. 5 by the template 'for every input the law returns true; each argument reads behind the call as it read before'; 0 by the template 'total and deterministic' (their statements: YtcgbfdjdpjdncaaTotals.lean).
  GIVEN WITH THE SEED: the statements are not yours to turn. If you find one false, say at which input.
  Laid BY PROGRAM, IN A SANDBOX (cutbox-rows.mjs): the forced cells as the released guide's own fill.sh prints them over the translation 3541f9749cc6ab2f… (all of the seat's roots in one cut). By AI agents, Wed Nov 11 2026. No macro, syntax, notation, axiom, sorry.
-/
import Derived.Test.YtcgbfdjdpjdncaaChecked
import GoSem.Claim
import GoSem.ClaimJoined
import GoSem.ClaimMapViews
import Derived.JoinedTies
import Derived.KernelRfl
namespace Go.Proofs.Ytcgbfdjdpjdncaa
/- THE CELL 'sum', in the pinned program and in every row, IS THE sha256 OF THE DUMP (.gsa) THAT YtcgbfdjdpjdncaaProg.lean LOADS. Nothing in Lean hashes anything: it is a label: what it is worth is what the hold of that sum in a sandbox is worth. -/
noncomputable def Try.pinned : Pinned := { name := "ytcgbfdjdpjdncaa", sum := "3541f9749cc6ab2fa1e7c627e465200ec40dac1d7a3b6b52dfe228b49b0f1287", checked := Try.checked }
namespace Rows
def none {H : Type} : Left H := { results := [], args := [] }

/-- 'scrivenerlaw04.BandSets': WHATEVER THE INPUT: true; the input reads as it did. -/
def bandSetsSpec : ChangeSpec := { name := "bandSets", fn := fun _ => fun
  | [d1, d2] => { results := [.lit (.bool true)], args := [d1, d2] }
  | _ => none }
def bandSetsRow : OpenClaim := { program := "ytcgbfdjdpjdncaa", sum := "3541f9749cc6ab2fa1e7c627e465200ec40dac1d7a3b6b52dfe228b49b0f1287", func := "scrivener/scrivenerlaw04.BandSets", spec := "bandSets", unfollowed := true, recurses := true, apart := false }
def BandSetsSaid : Prop := bandSetsRow.holds Try.pinned (OpenSpec.ofChange bandSetsSpec)

/-- ITS FALSE NEIGHBOUR: 'it returns false'. Refute it at one input. -/
def bandSetsWrong : ChangeSpec := { name := "bandSets", fn := fun _ => fun
  | [d1, d2] => { results := [.lit (.bool false)], args := [d1, d2] }
  | _ => none }
def BandSetsWrongFalsely : Prop := bandSetsRow.holds Try.pinned (OpenSpec.ofChange bandSetsWrong)

/-- 'scrivenerlaw04.BandHas': WHATEVER THE INPUT: true; the input reads as it did. -/
def bandHasSpec : ChangeSpec := { name := "bandHas", fn := fun _ => fun
  | [d1, d2, d3] => { results := [.lit (.bool true)], args := [d1, d2, d3] }
  | _ => none }
def bandHasRow : OpenClaim := { program := "ytcgbfdjdpjdncaa", sum := "3541f9749cc6ab2fa1e7c627e465200ec40dac1d7a3b6b52dfe228b49b0f1287", func := "scrivener/scrivenerlaw04.BandHas", spec := "bandHas", unfollowed := true, recurses := true, apart := false }
def BandHasSaid : Prop := bandHasRow.holds Try.pinned (OpenSpec.ofChange bandHasSpec)

/-- ITS FALSE NEIGHBOUR: 'it returns false'. Refute it at one input. -/
def bandHasWrong : ChangeSpec := { name := "bandHas", fn := fun _ => fun
  | [d1, d2, d3] => { results := [.lit (.bool false)], args := [d1, d2, d3] }
  | _ => none }
def BandHasWrongFalsely : Prop := bandHasRow.holds Try.pinned (OpenSpec.ofChange bandHasWrong)

/-- 'scrivenerlaw04.BandGood': WHATEVER THE INPUT: true; the input reads as it did. -/
def bandGoodSpec : ChangeSpec := { name := "bandGood", fn := fun _ => fun
  | [d1, d2] => { results := [.lit (.bool true)], args := [d1, d2] }
  | _ => none }
def bandGoodRow : OpenClaim := { program := "ytcgbfdjdpjdncaa", sum := "3541f9749cc6ab2fa1e7c627e465200ec40dac1d7a3b6b52dfe228b49b0f1287", func := "scrivener/scrivenerlaw04.BandGood", spec := "bandGood", unfollowed := true, recurses := true, apart := false }
def BandGoodSaid : Prop := bandGoodRow.holds Try.pinned (OpenSpec.ofChange bandGoodSpec)

/-- ITS FALSE NEIGHBOUR: 'it returns false'. Refute it at one input. -/
def bandGoodWrong : ChangeSpec := { name := "bandGood", fn := fun _ => fun
  | [d1, d2] => { results := [.lit (.bool false)], args := [d1, d2] }
  | _ => none }
def BandGoodWrongFalsely : Prop := bandGoodRow.holds Try.pinned (OpenSpec.ofChange bandGoodWrong)

/-- 'scrivenerlaw04.BandMoves': WHATEVER THE INPUT: true; the input reads as it did. -/
def bandMovesSpec : ChangeSpec := { name := "bandMoves", fn := fun _ => fun
  | [d1, d2, d3] => { results := [.lit (.bool true)], args := [d1, d2, d3] }
  | _ => none }
def bandMovesRow : OpenClaim := { program := "ytcgbfdjdpjdncaa", sum := "3541f9749cc6ab2fa1e7c627e465200ec40dac1d7a3b6b52dfe228b49b0f1287", func := "scrivener/scrivenerlaw04.BandMoves", spec := "bandMoves", unfollowed := true, recurses := true, apart := false }
def BandMovesSaid : Prop := bandMovesRow.holds Try.pinned (OpenSpec.ofChange bandMovesSpec)

/-- ITS FALSE NEIGHBOUR: 'it returns false'. Refute it at one input. -/
def bandMovesWrong : ChangeSpec := { name := "bandMoves", fn := fun _ => fun
  | [d1, d2, d3] => { results := [.lit (.bool false)], args := [d1, d2, d3] }
  | _ => none }
def BandMovesWrongFalsely : Prop := bandMovesRow.holds Try.pinned (OpenSpec.ofChange bandMovesWrong)

/-- 'scrivenerlaw04.BandHeight': WHATEVER THE INPUT: true; the input reads as it did. -/
def bandHeightSpec : ChangeSpec := { name := "bandHeight", fn := fun _ => fun
  | [d] => { results := [.lit (.bool true)], args := [d] }
  | _ => none }
def bandHeightRow : OpenClaim := { program := "ytcgbfdjdpjdncaa", sum := "3541f9749cc6ab2fa1e7c627e465200ec40dac1d7a3b6b52dfe228b49b0f1287", func := "scrivener/scrivenerlaw04.BandHeight", spec := "bandHeight", unfollowed := true, recurses := true, apart := false }
def BandHeightSaid : Prop := bandHeightRow.holds Try.pinned (OpenSpec.ofChange bandHeightSpec)

/-- ITS FALSE NEIGHBOUR: 'it returns false'. Refute it at one input. -/
def bandHeightWrong : ChangeSpec := { name := "bandHeight", fn := fun _ => fun
  | [d] => { results := [.lit (.bool false)], args := [d] }
  | _ => none }
def BandHeightWrongFalsely : Prop := bandHeightRow.holds Try.pinned (OpenSpec.ofChange bandHeightWrong)

/- THE SECOND FORM. 'bulk': how many values and letters a reading holds, each counted each time it is reached (what is shared counts as often as it is met; a slice's spare places count too). A statement '..UptoSaid' is the law's where the arguments, and the package variables that the reading takes, are together of bulk at most 1048576: NARROWER than '..Said'. Prove '..Said' where nothing that the law and all that it calls make is longer than what came in: it says more and counts as full. Else prove '..UptoSaid'. A law counts once. -/
mutual
def uptoBulk {H : Type} : DataW H → Nat
  | .lit (.string bytes) => bytes.length + 1
  | .lit _ => 1
  | .nil => 1
  | .ptr d => uptoBulk d + 1
  | .slice elems spare => uptoBulkAll elems + uptoBulkAll spare + 1
  | .agg parts => uptoBulkAll parts + 1
  | .iface _ d => uptoBulk d + 1
  | .map entries => uptoBulkEntries entries + 1
  | .held _ => 1
def uptoBulkAll {H : Type} : List (DataW H) → Nat
  | [] => 0
  | d :: r => uptoBulk d + uptoBulkAll r
def uptoBulkEntries {H : Type} : List (Lit × DataW H) → Nat
  | [] => 0
  | x :: r => uptoBulkEntry x + uptoBulkEntries r
def uptoBulkEntry {H : Type} : Lit × DataW H → Nat
  | (.string bytes, d) => bytes.length + uptoBulk d + 1
  | (_, d) => uptoBulk d + 1
 end
def uptoSmall : (H : Type) → List (DataW H) → Bool := fun _ ds => decide (uptoBulkAll ds ≤ 1048576)
def OpenSpec.upto (s : _root_.Go.ChangeSpec) : _root_.Go.OpenSpec := { _root_.Go.OpenSpec.ofChange s with cond := some uptoSmall }

/-- 'scrivenerlaw04.BandSets', WHERE WHAT IT READS IS OF BULK AT MOST 1048576: true; the input reads as it did. -/
def bandSetsUptoRow : OpenClaim := { program := "ytcgbfdjdpjdncaa", sum := "3541f9749cc6ab2fa1e7c627e465200ec40dac1d7a3b6b52dfe228b49b0f1287", func := "scrivener/scrivenerlaw04.BandSets", spec := "bandSets", unfollowed := true, recurses := true, apart := false, narrowed := true }
def BandSetsUptoSaid : Prop := bandSetsUptoRow.holds Try.pinned (OpenSpec.upto bandSetsSpec)

/-- 'scrivenerlaw04.BandHas', WHERE WHAT IT READS IS OF BULK AT MOST 1048576: true; the input reads as it did. -/
def bandHasUptoRow : OpenClaim := { program := "ytcgbfdjdpjdncaa", sum := "3541f9749cc6ab2fa1e7c627e465200ec40dac1d7a3b6b52dfe228b49b0f1287", func := "scrivener/scrivenerlaw04.BandHas", spec := "bandHas", unfollowed := true, recurses := true, apart := false, narrowed := true }
def BandHasUptoSaid : Prop := bandHasUptoRow.holds Try.pinned (OpenSpec.upto bandHasSpec)

/-- 'scrivenerlaw04.BandGood', WHERE WHAT IT READS IS OF BULK AT MOST 1048576: true; the input reads as it did. -/
def bandGoodUptoRow : OpenClaim := { program := "ytcgbfdjdpjdncaa", sum := "3541f9749cc6ab2fa1e7c627e465200ec40dac1d7a3b6b52dfe228b49b0f1287", func := "scrivener/scrivenerlaw04.BandGood", spec := "bandGood", unfollowed := true, recurses := true, apart := false, narrowed := true }
def BandGoodUptoSaid : Prop := bandGoodUptoRow.holds Try.pinned (OpenSpec.upto bandGoodSpec)

/-- 'scrivenerlaw04.BandMoves', WHERE WHAT IT READS IS OF BULK AT MOST 1048576: true; the input reads as it did. -/
def bandMovesUptoRow : OpenClaim := { program := "ytcgbfdjdpjdncaa", sum := "3541f9749cc6ab2fa1e7c627e465200ec40dac1d7a3b6b52dfe228b49b0f1287", func := "scrivener/scrivenerlaw04.BandMoves", spec := "bandMoves", unfollowed := true, recurses := true, apart := false, narrowed := true }
def BandMovesUptoSaid : Prop := bandMovesUptoRow.holds Try.pinned (OpenSpec.upto bandMovesSpec)

/-- 'scrivenerlaw04.BandHeight', WHERE WHAT IT READS IS OF BULK AT MOST 1048576: true; the input reads as it did. -/
def bandHeightUptoRow : OpenClaim := { program := "ytcgbfdjdpjdncaa", sum := "3541f9749cc6ab2fa1e7c627e465200ec40dac1d7a3b6b52dfe228b49b0f1287", func := "scrivener/scrivenerlaw04.BandHeight", spec := "bandHeight", unfollowed := true, recurses := true, apart := false, narrowed := true }
def BandHeightUptoSaid : Prop := bandHeightUptoRow.holds Try.pinned (OpenSpec.upto bandHeightSpec)

end Rows
end Go.Proofs.Ytcgbfdjdpjdncaa
