/-
  No cell of these rows narrows 'for every input' (looked for: loops, veiled, ifaces, maps, wideKeys, modest, calm, conditions, laid).
  DERIVED. THE GIVEN ROWS OF THIS SEAT. 5 by the template 'for every input the law returns true; each argument reads behind the call as it read before'; 0 by the template 'total and deterministic' (their statements: YtmhgpgaikcimnaaTotals.lean).
  GIVEN WITH THE SEED: the statements are not yours to turn. If you find one false, say at which input.
  Laid BY PROGRAM, IN A SANDBOX (cutbox-rows.mjs): the forced cells as the released guide's own fill.sh prints them over the translation 1d4f7c0acc8b0ffb… (all of the seat's roots in one cut). By AI agents, Wed Nov 11 2026. No macro, syntax, notation, axiom, sorry.
-/
import Derived.Test.YtmhgpgaikcimnaaChecked
import GoSem.Claim
import GoSem.ClaimJoined
import GoSem.ClaimMapViews
import Derived.JoinedTies
import Derived.KernelRfl
namespace Go.Proofs.Ytmhgpgaikcimnaa
/- THE CELL 'sum', in the pinned program and in every row, IS THE sha256 OF THE DUMP (.gsa) THAT YtmhgpgaikcimnaaProg.lean LOADS. Nothing in Lean hashes anything: it is a label: what it is worth is what the hold of that sum in a sandbox is worth. -/
noncomputable def Try.pinned : Pinned := { name := "ytmhgpgaikcimnaa", sum := "1d4f7c0acc8b0ffbd8a1be42921e9a42dc31d213af24e107ed2cbedd12f0c7ed", checked := Try.checked }
namespace Rows
def none {H : Type} : Left H := { results := [], args := [] }

/-- 'scrivenerlaw05.FramePlays': WHATEVER THE INPUT: true; the input reads as it did. -/
def framePlaysSpec : ChangeSpec := { name := "framePlays", fn := fun _ => fun
  | [d1, d2, d3] => { results := [.lit (.bool true)], args := [d1, d2, d3] }
  | _ => none }
def framePlaysRow : OpenClaim := { program := "ytmhgpgaikcimnaa", sum := "1d4f7c0acc8b0ffbd8a1be42921e9a42dc31d213af24e107ed2cbedd12f0c7ed", func := "scrivener/scrivenerlaw05.FramePlays", spec := "framePlays", apart := false }
def FramePlaysSaid : Prop := framePlaysRow.holds Try.pinned (OpenSpec.ofChange framePlaysSpec)

/-- ITS FALSE NEIGHBOUR: 'it returns false'. Refute it at one input. -/
def framePlaysWrong : ChangeSpec := { name := "framePlays", fn := fun _ => fun
  | [d1, d2, d3] => { results := [.lit (.bool false)], args := [d1, d2, d3] }
  | _ => none }
def FramePlaysWrongFalsely : Prop := framePlaysRow.holds Try.pinned (OpenSpec.ofChange framePlaysWrong)

/-- 'scrivenerlaw05.FrameAt': WHATEVER THE INPUT: true; the input reads as it did. -/
def frameAtSpec : ChangeSpec := { name := "frameAt", fn := fun _ => fun
  | [d1, d2, d3] => { results := [.lit (.bool true)], args := [d1, d2, d3] }
  | _ => none }
def frameAtRow : OpenClaim := { program := "ytmhgpgaikcimnaa", sum := "1d4f7c0acc8b0ffbd8a1be42921e9a42dc31d213af24e107ed2cbedd12f0c7ed", func := "scrivener/scrivenerlaw05.FrameAt", spec := "frameAt", apart := false }
def FrameAtSaid : Prop := frameAtRow.holds Try.pinned (OpenSpec.ofChange frameAtSpec)

/-- ITS FALSE NEIGHBOUR: 'it returns false'. Refute it at one input. -/
def frameAtWrong : ChangeSpec := { name := "frameAt", fn := fun _ => fun
  | [d1, d2, d3] => { results := [.lit (.bool false)], args := [d1, d2, d3] }
  | _ => none }
def FrameAtWrongFalsely : Prop := frameAtRow.holds Try.pinned (OpenSpec.ofChange frameAtWrong)

/-- 'scrivenerlaw05.FrameBack': WHATEVER THE INPUT: true; the input reads as it did. -/
def frameBackSpec : ChangeSpec := { name := "frameBack", fn := fun _ => fun
  | [d1, d2] => { results := [.lit (.bool true)], args := [d1, d2] }
  | _ => none }
def frameBackRow : OpenClaim := { program := "ytmhgpgaikcimnaa", sum := "1d4f7c0acc8b0ffbd8a1be42921e9a42dc31d213af24e107ed2cbedd12f0c7ed", func := "scrivener/scrivenerlaw05.FrameBack", spec := "frameBack", apart := false }
def FrameBackSaid : Prop := frameBackRow.holds Try.pinned (OpenSpec.ofChange frameBackSpec)

/-- ITS FALSE NEIGHBOUR: 'it returns false'. Refute it at one input. -/
def frameBackWrong : ChangeSpec := { name := "frameBack", fn := fun _ => fun
  | [d1, d2] => { results := [.lit (.bool false)], args := [d1, d2] }
  | _ => none }
def FrameBackWrongFalsely : Prop := frameBackRow.holds Try.pinned (OpenSpec.ofChange frameBackWrong)

/-- 'scrivenerlaw05.FrameClones': WHATEVER THE INPUT: true; the input reads as it did. -/
def frameClonesSpec : ChangeSpec := { name := "frameClones", fn := fun _ => fun
  | [d1, d2] => { results := [.lit (.bool true)], args := [d1, d2] }
  | _ => none }
def frameClonesRow : OpenClaim := { program := "ytmhgpgaikcimnaa", sum := "1d4f7c0acc8b0ffbd8a1be42921e9a42dc31d213af24e107ed2cbedd12f0c7ed", func := "scrivener/scrivenerlaw05.FrameClones", spec := "frameClones", apart := false }
def FrameClonesSaid : Prop := frameClonesRow.holds Try.pinned (OpenSpec.ofChange frameClonesSpec)

/-- ITS FALSE NEIGHBOUR: 'it returns false'. Refute it at one input. -/
def frameClonesWrong : ChangeSpec := { name := "frameClones", fn := fun _ => fun
  | [d1, d2] => { results := [.lit (.bool false)], args := [d1, d2] }
  | _ => none }
def FrameClonesWrongFalsely : Prop := frameClonesRow.holds Try.pinned (OpenSpec.ofChange frameClonesWrong)

/-- 'scrivenerlaw05.FrameNone': WHATEVER THE INPUT: true; the input reads as it did. -/
def frameNoneSpec : ChangeSpec := { name := "frameNone", fn := fun _ => fun
  | [d] => { results := [.lit (.bool true)], args := [d] }
  | _ => none }
def frameNoneRow : OpenClaim := { program := "ytmhgpgaikcimnaa", sum := "1d4f7c0acc8b0ffbd8a1be42921e9a42dc31d213af24e107ed2cbedd12f0c7ed", func := "scrivener/scrivenerlaw05.FrameNone", spec := "frameNone", apart := false }
def FrameNoneSaid : Prop := frameNoneRow.holds Try.pinned (OpenSpec.ofChange frameNoneSpec)

/-- ITS FALSE NEIGHBOUR: 'it returns false'. Refute it at one input. -/
def frameNoneWrong : ChangeSpec := { name := "frameNone", fn := fun _ => fun
  | [d] => { results := [.lit (.bool false)], args := [d] }
  | _ => none }
def FrameNoneWrongFalsely : Prop := frameNoneRow.holds Try.pinned (OpenSpec.ofChange frameNoneWrong)

/- THE SECOND FORM. 'bulk': how many values and letters a reading holds, each counted each time it is reached (what is shared counts as often as it is met; a slice's spare places count too). A statement '..UptoSaid' is the law's where the arguments, and the package variables that the reading takes, are together of bulk at most 1048576: NARROWER than '..Said'. Prove '..Said' where nothing that the law and all that it calls make is longer than what came in: it says more and counts as full. Else prove '..UptoSaid'. A law counts once. -/
mutual
def uptoBulk {H : Type} : DataW H → Nat
  | .lit (.string bytes) => bytes.length + 1
  | .lit _ => 1
  | .nil => 1
  | .ptr d => uptoBulk d + 1
  | .slice elems spare => uptoBulkAll elems + uptoBulkAll spare + 1
  | .agg parts => uptoBulkAll parts + 1
  | .iface _ d => uptoBulk d + 1
  | .map entries => uptoBulkEntries entries + 1
  | .held _ => 1
def uptoBulkAll {H : Type} : List (DataW H) → Nat
  | [] => 0
  | d :: r => uptoBulk d + uptoBulkAll r
def uptoBulkEntries {H : Type} : List (Lit × DataW H) → Nat
  | [] => 0
  | x :: r => uptoBulkEntry x + uptoBulkEntries r
def uptoBulkEntry {H : Type} : Lit × DataW H → Nat
  | (.string bytes, d) => bytes.length + uptoBulk d + 1
  | (_, d) => uptoBulk d + 1
 end
def uptoSmall : (H : Type) → List (DataW H) → Bool := fun _ ds => decide (uptoBulkAll ds ≤ 1048576)
def OpenSpec.upto (s : _root_.Go.ChangeSpec) : _root_.Go.OpenSpec := { _root_.Go.OpenSpec.ofChange s with cond := some uptoSmall }

/-- 'scrivenerlaw05.FramePlays', WHERE WHAT IT READS IS OF BULK AT MOST 1048576: true; the input reads as it did. -/
def framePlaysUptoRow : OpenClaim := { program := "ytmhgpgaikcimnaa", sum := "1d4f7c0acc8b0ffbd8a1be42921e9a42dc31d213af24e107ed2cbedd12f0c7ed", func := "scrivener/scrivenerlaw05.FramePlays", spec := "framePlays", apart := false, narrowed := true }
def FramePlaysUptoSaid : Prop := framePlaysUptoRow.holds Try.pinned (OpenSpec.upto framePlaysSpec)

/-- 'scrivenerlaw05.FrameAt', WHERE WHAT IT READS IS OF BULK AT MOST 1048576: true; the input reads as it did. -/
def frameAtUptoRow : OpenClaim := { program := "ytmhgpgaikcimnaa", sum := "1d4f7c0acc8b0ffbd8a1be42921e9a42dc31d213af24e107ed2cbedd12f0c7ed", func := "scrivener/scrivenerlaw05.FrameAt", spec := "frameAt", apart := false, narrowed := true }
def FrameAtUptoSaid : Prop := frameAtUptoRow.holds Try.pinned (OpenSpec.upto frameAtSpec)

/-- 'scrivenerlaw05.FrameBack', WHERE WHAT IT READS IS OF BULK AT MOST 1048576: true; the input reads as it did. -/
def frameBackUptoRow : OpenClaim := { program := "ytmhgpgaikcimnaa", sum := "1d4f7c0acc8b0ffbd8a1be42921e9a42dc31d213af24e107ed2cbedd12f0c7ed", func := "scrivener/scrivenerlaw05.FrameBack", spec := "frameBack", apart := false, narrowed := true }
def FrameBackUptoSaid : Prop := frameBackUptoRow.holds Try.pinned (OpenSpec.upto frameBackSpec)

/-- 'scrivenerlaw05.FrameClones', WHERE WHAT IT READS IS OF BULK AT MOST 1048576: true; the input reads as it did. -/
def frameClonesUptoRow : OpenClaim := { program := "ytmhgpgaikcimnaa", sum := "1d4f7c0acc8b0ffbd8a1be42921e9a42dc31d213af24e107ed2cbedd12f0c7ed", func := "scrivener/scrivenerlaw05.FrameClones", spec := "frameClones", apart := false, narrowed := true }
def FrameClonesUptoSaid : Prop := frameClonesUptoRow.holds Try.pinned (OpenSpec.upto frameClonesSpec)

/-- 'scrivenerlaw05.FrameNone', WHERE WHAT IT READS IS OF BULK AT MOST 1048576: true; the input reads as it did. -/
def frameNoneUptoRow : OpenClaim := { program := "ytmhgpgaikcimnaa", sum := "1d4f7c0acc8b0ffbd8a1be42921e9a42dc31d213af24e107ed2cbedd12f0c7ed", func := "scrivener/scrivenerlaw05.FrameNone", spec := "frameNone", apart := false, narrowed := true }
def FrameNoneUptoSaid : Prop := frameNoneUptoRow.holds Try.pinned (OpenSpec.upto frameNoneSpec)

end Rows
end Go.Proofs.Ytmhgpgaikcimnaa
