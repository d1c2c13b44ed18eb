/-
  No cell of these rows narrows 'for every input' (looked for: loops, veiled, ifaces, maps, wideKeys, modest, calm, conditions, laid).
  DERIVED. THE GIVEN ROWS OF THIS SEAT. 4 by the template 'for every input the law returns true; each argument reads behind the call as it read before'; 0 by the template 'total and deterministic' (their statements: YtjoadlfkdkeomaaTotals.lean).
  GIVEN WITH THE SEED: the statements are not yours to turn. If you find one false, say at which input.
  Laid BY PROGRAM, IN A SANDBOX (cutbox-rows.mjs): the forced cells as the released guide's own fill.sh prints them over the translation 8aee661f81e2ace4… (all of the seat's roots in one cut). By AI agents, Wed Nov 11 2026. No macro, syntax, notation, axiom, sorry.
-/
import Derived.Test.YtjoadlfkdkeomaaChecked
import GoSem.Claim
import GoSem.ClaimJoined
import GoSem.ClaimMapViews
import Derived.JoinedTies
import Derived.KernelRfl
namespace Go.Proofs.Ytjoadlfkdkeomaa
/- THE CELL 'sum', in the pinned program and in every row, IS THE sha256 OF THE DUMP (.gsa) THAT YtjoadlfkdkeomaaProg.lean LOADS. Nothing in Lean hashes anything: it is a label: what it is worth is what the hold of that sum in a sandbox is worth. -/
noncomputable def Try.pinned : Pinned := { name := "ytjoadlfkdkeomaa", sum := "8aee661f81e2ace4c77ad90c198028892044ff4702191e89eef937e1b94192ca", checked := Try.checked }
namespace Rows
def none {H : Type} : Left H := { results := [], args := [] }

/-- 'scrivenerlaw21.HeightsPlay': WHATEVER THE INPUT: true; the input reads as it did. -/
def heightsPlaySpec : ChangeSpec := { name := "heightsPlay", fn := fun _ => fun
  | [d1, d2] => { results := [.lit (.bool true)], args := [d1, d2] }
  | _ => none }
def heightsPlayRow : OpenClaim := { program := "ytjoadlfkdkeomaa", sum := "8aee661f81e2ace4c77ad90c198028892044ff4702191e89eef937e1b94192ca", func := "scrivener/scrivenerlaw21.HeightsPlay", spec := "heightsPlay", inPlace := ["slices.overlaps[*scrivener/seq.Seq]"], unfollowed := true, recurses := true, apart := false }
def HeightsPlaySaid : Prop := heightsPlayRow.holds Try.pinned (OpenSpec.ofChange heightsPlaySpec)

/-- ITS FALSE NEIGHBOUR: 'it returns false'. Refute it at one input. -/
def heightsPlayWrong : ChangeSpec := { name := "heightsPlay", fn := fun _ => fun
  | [d1, d2] => { results := [.lit (.bool false)], args := [d1, d2] }
  | _ => none }
def HeightsPlayWrongFalsely : Prop := heightsPlayRow.holds Try.pinned (OpenSpec.ofChange heightsPlayWrong)

/-- 'scrivenerlaw21.HeightsFind': WHATEVER THE INPUT: true; the input reads as it did. -/
def heightsFindSpec : ChangeSpec := { name := "heightsFind", fn := fun _ => fun
  | [d1, d2, d3] => { results := [.lit (.bool true)], args := [d1, d2, d3] }
  | _ => none }
def heightsFindRow : OpenClaim := { program := "ytjoadlfkdkeomaa", sum := "8aee661f81e2ace4c77ad90c198028892044ff4702191e89eef937e1b94192ca", func := "scrivener/scrivenerlaw21.HeightsFind", spec := "heightsFind", inPlace := ["slices.overlaps[*scrivener/seq.Seq]"], unfollowed := true, recurses := true, apart := false }
def HeightsFindSaid : Prop := heightsFindRow.holds Try.pinned (OpenSpec.ofChange heightsFindSpec)

/-- ITS FALSE NEIGHBOUR: 'it returns false'. Refute it at one input. -/
def heightsFindWrong : ChangeSpec := { name := "heightsFind", fn := fun _ => fun
  | [d1, d2, d3] => { results := [.lit (.bool false)], args := [d1, d2, d3] }
  | _ => none }
def HeightsFindWrongFalsely : Prop := heightsFindRow.holds Try.pinned (OpenSpec.ofChange heightsFindWrong)

/-- 'scrivenerlaw21.HeightsBack': WHATEVER THE INPUT: true; the input reads as it did. -/
def heightsBackSpec : ChangeSpec := { name := "heightsBack", fn := fun _ => fun
  | [d1, d2, d3] => { results := [.lit (.bool true)], args := [d1, d2, d3] }
  | _ => none }
def heightsBackRow : OpenClaim := { program := "ytjoadlfkdkeomaa", sum := "8aee661f81e2ace4c77ad90c198028892044ff4702191e89eef937e1b94192ca", func := "scrivener/scrivenerlaw21.HeightsBack", spec := "heightsBack", inPlace := ["slices.overlaps[*scrivener/seq.Seq]"], unfollowed := true, recurses := true, apart := false }
def HeightsBackSaid : Prop := heightsBackRow.holds Try.pinned (OpenSpec.ofChange heightsBackSpec)

/-- ITS FALSE NEIGHBOUR: 'it returns false'. Refute it at one input. -/
def heightsBackWrong : ChangeSpec := { name := "heightsBack", fn := fun _ => fun
  | [d1, d2, d3] => { results := [.lit (.bool false)], args := [d1, d2, d3] }
  | _ => none }
def HeightsBackWrongFalsely : Prop := heightsBackRow.holds Try.pinned (OpenSpec.ofChange heightsBackWrong)

/-- 'scrivenerlaw21.HeightsNone': WHATEVER THE INPUT: true; the input reads as it did. -/
def heightsNoneSpec : ChangeSpec := { name := "heightsNone", fn := fun _ => fun
  | [d] => { results := [.lit (.bool true)], args := [d] }
  | _ => none }
def heightsNoneRow : OpenClaim := { program := "ytjoadlfkdkeomaa", sum := "8aee661f81e2ace4c77ad90c198028892044ff4702191e89eef937e1b94192ca", func := "scrivener/scrivenerlaw21.HeightsNone", spec := "heightsNone", inPlace := ["slices.overlaps[*scrivener/seq.Seq]"], unfollowed := true, recurses := true, apart := false }
def HeightsNoneSaid : Prop := heightsNoneRow.holds Try.pinned (OpenSpec.ofChange heightsNoneSpec)

/-- ITS FALSE NEIGHBOUR: 'it returns false'. Refute it at one input. -/
def heightsNoneWrong : ChangeSpec := { name := "heightsNone", fn := fun _ => fun
  | [d] => { results := [.lit (.bool false)], args := [d] }
  | _ => none }
def HeightsNoneWrongFalsely : Prop := heightsNoneRow.holds Try.pinned (OpenSpec.ofChange heightsNoneWrong)

/- THE SECOND FORM. 'bulk': how many values and letters a reading holds, each counted each time it is reached (what is shared counts as often as it is met; a slice's spare places count too). A statement '..UptoSaid' is the law's where the arguments, and the package variables that the reading takes, are together of bulk at most 1048576: NARROWER than '..Said'. Prove '..Said' where nothing that the law and all that it calls make is longer than what came in: it says more and counts as full. Else prove '..UptoSaid'. A law counts once. -/
mutual
def uptoBulk {H : Type} : DataW H → Nat
  | .lit (.string bytes) => bytes.length + 1
  | .lit _ => 1
  | .nil => 1
  | .ptr d => uptoBulk d + 1
  | .slice elems spare => uptoBulkAll elems + uptoBulkAll spare + 1
  | .agg parts => uptoBulkAll parts + 1
  | .iface _ d => uptoBulk d + 1
  | .map entries => uptoBulkEntries entries + 1
  | .held _ => 1
def uptoBulkAll {H : Type} : List (DataW H) → Nat
  | [] => 0
  | d :: r => uptoBulk d + uptoBulkAll r
def uptoBulkEntries {H : Type} : List (Lit × DataW H) → Nat
  | [] => 0
  | x :: r => uptoBulkEntry x + uptoBulkEntries r
def uptoBulkEntry {H : Type} : Lit × DataW H → Nat
  | (.string bytes, d) => bytes.length + uptoBulk d + 1
  | (_, d) => uptoBulk d + 1
 end
def uptoSmall : (H : Type) → List (DataW H) → Bool := fun _ ds => decide (uptoBulkAll ds ≤ 1048576)
def OpenSpec.upto (s : _root_.Go.ChangeSpec) : _root_.Go.OpenSpec := { _root_.Go.OpenSpec.ofChange s with cond := some uptoSmall }

/-- 'scrivenerlaw21.HeightsPlay', WHERE WHAT IT READS IS OF BULK AT MOST 1048576: true; the input reads as it did. -/
def heightsPlayUptoRow : OpenClaim := { program := "ytjoadlfkdkeomaa", sum := "8aee661f81e2ace4c77ad90c198028892044ff4702191e89eef937e1b94192ca", func := "scrivener/scrivenerlaw21.HeightsPlay", spec := "heightsPlay", inPlace := ["slices.overlaps[*scrivener/seq.Seq]"], unfollowed := true, recurses := true, apart := false, narrowed := true }
def HeightsPlayUptoSaid : Prop := heightsPlayUptoRow.holds Try.pinned (OpenSpec.upto heightsPlaySpec)

/-- 'scrivenerlaw21.HeightsFind', WHERE WHAT IT READS IS OF BULK AT MOST 1048576: true; the input reads as it did. -/
def heightsFindUptoRow : OpenClaim := { program := "ytjoadlfkdkeomaa", sum := "8aee661f81e2ace4c77ad90c198028892044ff4702191e89eef937e1b94192ca", func := "scrivener/scrivenerlaw21.HeightsFind", spec := "heightsFind", inPlace := ["slices.overlaps[*scrivener/seq.Seq]"], unfollowed := true, recurses := true, apart := false, narrowed := true }
def HeightsFindUptoSaid : Prop := heightsFindUptoRow.holds Try.pinned (OpenSpec.upto heightsFindSpec)

/-- 'scrivenerlaw21.HeightsBack', WHERE WHAT IT READS IS OF BULK AT MOST 1048576: true; the input reads as it did. -/
def heightsBackUptoRow : OpenClaim := { program := "ytjoadlfkdkeomaa", sum := "8aee661f81e2ace4c77ad90c198028892044ff4702191e89eef937e1b94192ca", func := "scrivener/scrivenerlaw21.HeightsBack", spec := "heightsBack", inPlace := ["slices.overlaps[*scrivener/seq.Seq]"], unfollowed := true, recurses := true, apart := false, narrowed := true }
def HeightsBackUptoSaid : Prop := heightsBackUptoRow.holds Try.pinned (OpenSpec.upto heightsBackSpec)

/-- 'scrivenerlaw21.HeightsNone', WHERE WHAT IT READS IS OF BULK AT MOST 1048576: true; the input reads as it did. -/
def heightsNoneUptoRow : OpenClaim := { program := "ytjoadlfkdkeomaa", sum := "8aee661f81e2ace4c77ad90c198028892044ff4702191e89eef937e1b94192ca", func := "scrivener/scrivenerlaw21.HeightsNone", spec := "heightsNone", inPlace := ["slices.overlaps[*scrivener/seq.Seq]"], unfollowed := true, recurses := true, apart := false, narrowed := true }
def HeightsNoneUptoSaid : Prop := heightsNoneUptoRow.holds Try.pinned (OpenSpec.upto heightsNoneSpec)

end Rows
end Go.Proofs.Ytjoadlfkdkeomaa
