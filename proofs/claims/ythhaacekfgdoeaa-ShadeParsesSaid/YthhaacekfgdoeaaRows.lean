/-
  No cell of these rows narrows 'for every input' (looked for: loops, veiled, ifaces, maps, wideKeys, modest, calm, conditions, laid).
  DERIVED. THE GIVEN ROWS OF THIS SEAT. 3 by the template 'for every input the law returns true; each argument reads behind the call as it read before'; 0 by the template 'total and deterministic' (their statements: YthhaacekfgdoeaaTotals.lean).
  GIVEN WITH THE SEED: the statements are not yours to turn. If you find one false, say at which input.
  Laid BY PROGRAM, IN A SANDBOX (cutbox-rows.mjs): the forced cells as the released guide's own fill.sh prints them over the translation f8fde480923a0d3c… (all of the seat's roots in one cut). By AI agents, Wed Nov 11 2026. No macro, syntax, notation, axiom, sorry.
-/
import Derived.Test.YthhaacekfgdoeaaChecked
import GoSem.Claim
import GoSem.ClaimJoined
import GoSem.ClaimMapViews
import Derived.JoinedTies
import Derived.KernelRfl
namespace Go.Proofs.Ythhaacekfgdoeaa
/- THE CELL 'sum', in the pinned program and in every row, IS THE sha256 OF THE DUMP (.gsa) THAT YthhaacekfgdoeaaProg.lean LOADS. Nothing in Lean hashes anything: it is a label: what it is worth is what the hold of that sum in a sandbox is worth. -/
noncomputable def Try.pinned : Pinned := { name := "ythhaacekfgdoeaa", sum := "f8fde480923a0d3ccc9b8e23acc27927f3b1ed290d2f7070deabf3d3a0a83243", checked := Try.checked }
namespace Rows
def none {H : Type} : Left H := { results := [], args := [] }

/-- 'scrivenerlaw09.ShadeMixes': WHATEVER THE INPUT: true; the input reads as it did. -/
def shadeMixesSpec : ChangeSpec := { name := "shadeMixes", fn := fun _ => fun
  | [d1, d2] => { results := [.lit (.bool true)], args := [d1, d2] }
  | _ => none }
def shadeMixesRow : OpenClaim := { program := "ythhaacekfgdoeaa", sum := "f8fde480923a0d3ccc9b8e23acc27927f3b1ed290d2f7070deabf3d3a0a83243", func := "scrivener/scrivenerlaw09.ShadeMixes", spec := "shadeMixes", apart := false }
def ShadeMixesSaid : Prop := shadeMixesRow.holds Try.pinned (OpenSpec.ofChange shadeMixesSpec)

/-- ITS FALSE NEIGHBOUR: 'it returns false'. Refute it at one input. -/
def shadeMixesWrong : ChangeSpec := { name := "shadeMixes", fn := fun _ => fun
  | [d1, d2] => { results := [.lit (.bool false)], args := [d1, d2] }
  | _ => none }
def ShadeMixesWrongFalsely : Prop := shadeMixesRow.holds Try.pinned (OpenSpec.ofChange shadeMixesWrong)

/-- 'scrivenerlaw09.ShadeHexes': WHATEVER THE INPUT: true; the input reads as it did. -/
def shadeHexesSpec : ChangeSpec := { name := "shadeHexes", fn := fun _ => fun
  | [d] => { results := [.lit (.bool true)], args := [d] }
  | _ => none }
def shadeHexesRow : OpenClaim := { program := "ythhaacekfgdoeaa", sum := "f8fde480923a0d3ccc9b8e23acc27927f3b1ed290d2f7070deabf3d3a0a83243", func := "scrivener/scrivenerlaw09.ShadeHexes", spec := "shadeHexes", inPlace := ["internal/bytealg.IndexByteString"], apart := false }
def ShadeHexesSaid : Prop := shadeHexesRow.holds Try.pinned (OpenSpec.ofChange shadeHexesSpec)

/-- ITS FALSE NEIGHBOUR: 'it returns false'. Refute it at one input. -/
def shadeHexesWrong : ChangeSpec := { name := "shadeHexes", fn := fun _ => fun
  | [d] => { results := [.lit (.bool false)], args := [d] }
  | _ => none }
def ShadeHexesWrongFalsely : Prop := shadeHexesRow.holds Try.pinned (OpenSpec.ofChange shadeHexesWrong)

/-- 'scrivenerlaw09.ShadeParses': WHATEVER THE INPUT: true; the input reads as it did. -/
def shadeParsesSpec : ChangeSpec := { name := "shadeParses", fn := fun _ => fun
  | [d] => { results := [.lit (.bool true)], args := [d] }
  | _ => none }
def shadeParsesRow : OpenClaim := { program := "ythhaacekfgdoeaa", sum := "f8fde480923a0d3ccc9b8e23acc27927f3b1ed290d2f7070deabf3d3a0a83243", func := "scrivener/scrivenerlaw09.ShadeParses", spec := "shadeParses", inPlace := ["internal/bytealg.IndexByteString"], apart := false }
def ShadeParsesSaid : Prop := shadeParsesRow.holds Try.pinned (OpenSpec.ofChange shadeParsesSpec)

/-- ITS FALSE NEIGHBOUR: 'it returns false'. Refute it at one input. -/
def shadeParsesWrong : ChangeSpec := { name := "shadeParses", fn := fun _ => fun
  | [d] => { results := [.lit (.bool false)], args := [d] }
  | _ => none }
def ShadeParsesWrongFalsely : Prop := shadeParsesRow.holds Try.pinned (OpenSpec.ofChange shadeParsesWrong)

/- THE SECOND FORM. 'bulk': how many values and letters a reading holds, each counted each time it is reached (what is shared counts as often as it is met; a slice's spare places count too). A statement '..UptoSaid' is the law's where the arguments, and the package variables that the reading takes, are together of bulk at most 1048576: NARROWER than '..Said'. Prove '..Said' where nothing that the law and all that it calls make is longer than what came in: it says more and counts as full. Else prove '..UptoSaid'. A law counts once. -/
mutual
def uptoBulk {H : Type} : DataW H → Nat
  | .lit (.string bytes) => bytes.length + 1
  | .lit _ => 1
  | .nil => 1
  | .ptr d => uptoBulk d + 1
  | .slice elems spare => uptoBulkAll elems + uptoBulkAll spare + 1
  | .agg parts => uptoBulkAll parts + 1
  | .iface _ d => uptoBulk d + 1
  | .map entries => uptoBulkEntries entries + 1
  | .held _ => 1
def uptoBulkAll {H : Type} : List (DataW H) → Nat
  | [] => 0
  | d :: r => uptoBulk d + uptoBulkAll r
def uptoBulkEntries {H : Type} : List (Lit × DataW H) → Nat
  | [] => 0
  | x :: r => uptoBulkEntry x + uptoBulkEntries r
def uptoBulkEntry {H : Type} : Lit × DataW H → Nat
  | (.string bytes, d) => bytes.length + uptoBulk d + 1
  | (_, d) => uptoBulk d + 1
 end
def uptoSmall : (H : Type) → List (DataW H) → Bool := fun _ ds => decide (uptoBulkAll ds ≤ 1048576)
def OpenSpec.upto (s : _root_.Go.ChangeSpec) : _root_.Go.OpenSpec := { _root_.Go.OpenSpec.ofChange s with cond := some uptoSmall }

/-- 'scrivenerlaw09.ShadeMixes', WHERE WHAT IT READS IS OF BULK AT MOST 1048576: true; the input reads as it did. -/
def shadeMixesUptoRow : OpenClaim := { program := "ythhaacekfgdoeaa", sum := "f8fde480923a0d3ccc9b8e23acc27927f3b1ed290d2f7070deabf3d3a0a83243", func := "scrivener/scrivenerlaw09.ShadeMixes", spec := "shadeMixes", apart := false, narrowed := true }
def ShadeMixesUptoSaid : Prop := shadeMixesUptoRow.holds Try.pinned (OpenSpec.upto shadeMixesSpec)

/-- 'scrivenerlaw09.ShadeHexes', WHERE WHAT IT READS IS OF BULK AT MOST 1048576: true; the input reads as it did. -/
def shadeHexesUptoRow : OpenClaim := { program := "ythhaacekfgdoeaa", sum := "f8fde480923a0d3ccc9b8e23acc27927f3b1ed290d2f7070deabf3d3a0a83243", func := "scrivener/scrivenerlaw09.ShadeHexes", spec := "shadeHexes", inPlace := ["internal/bytealg.IndexByteString"], apart := false, narrowed := true }
def ShadeHexesUptoSaid : Prop := shadeHexesUptoRow.holds Try.pinned (OpenSpec.upto shadeHexesSpec)

/-- 'scrivenerlaw09.ShadeParses', WHERE WHAT IT READS IS OF BULK AT MOST 1048576: true; the input reads as it did. -/
def shadeParsesUptoRow : OpenClaim := { program := "ythhaacekfgdoeaa", sum := "f8fde480923a0d3ccc9b8e23acc27927f3b1ed290d2f7070deabf3d3a0a83243", func := "scrivener/scrivenerlaw09.ShadeParses", spec := "shadeParses", inPlace := ["internal/bytealg.IndexByteString"], apart := false, narrowed := true }
def ShadeParsesUptoSaid : Prop := shadeParsesUptoRow.holds Try.pinned (OpenSpec.upto shadeParsesSpec)

end Rows
end Go.Proofs.Ythhaacekfgdoeaa
