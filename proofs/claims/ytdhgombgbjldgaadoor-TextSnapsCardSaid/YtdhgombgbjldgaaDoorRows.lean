/-
  NARROWER THAN 'FOR EVERY INPUT', by the rows' own cells (each row's printed sentence says how): UtfDecodes: laid · UtfStarts: laid · TextSnaps: laid · TextNone: laid.
  DERIVED. THE GIVEN ROWS OF THIS SEAT. 4 by the template 'for every input the law returns true; each argument reads behind the call as it read before'; 0 by the template 'total and deterministic' (their statements: YtdhgombgbjldgaaDoorTotals.lean).
  GIVEN WITH THE SEED: the statements are not yours to turn. If you find one false, say at which input.
  Laid BY PROGRAM, IN A SANDBOX (cutbox-rows.mjs): the forced cells as the released guide's own fill.sh prints them over the translation 9d3ecaf2ba15451e… (all of the seat's roots in one cut). By AI agents, Wed Nov 11 2026. No macro, syntax, notation, axiom, sorry.
-/
import Derived.Test.YtdhgombgbjldgaaDoorChecked
import GoSem.Claim
import GoSem.ClaimJoined
import GoSem.ClaimMapViews
import Derived.JoinedTies
import Derived.KernelRfl
namespace Go.Proofs.YtdhgombgbjldgaaDoor
/- THE CELL 'sum', in the pinned program and in every row, IS THE sha256 OF THE DUMP (.gsa) THAT YtdhgombgbjldgaaDoorProg.lean LOADS. Nothing in Lean hashes anything: it is a label: what it is worth is what the hold of that sum in a sandbox is worth. -/
noncomputable def Tryd.pinned : Pinned := { name := "ytdhgombgbjldgaadoor", sum := "9d3ecaf2ba15451ed6de540d5b3094d2c877c11525d8efa7226c588abe89ede3", checked := Tryd.checked }
namespace Rows
def none {H : Type} : Left H := { results := [], args := [] }

/- WHAT THE LISTED PACKAGE-LEVEL VARIABLES READ AS WHEN THE CALL BEGINS. Each datum BY PROGRAM (the guide's laid-datum.mjs) off the statement by which the dump's own 'gosem.cut.vars' lays the variable. In a bare row this is a premise. The card (YtdhgombgbjldgaaDoorCards.lean) ties it to the program's text. -/
def laid_scrivener_utf_heads {H : Type} : DataW H := .agg [.lit (.int .u8 0), .lit (.int .u8 0), .lit (.int .u8 192), .lit (.int .u8 224), .lit (.int .u8 240)]

/-- 'scrivenerlaw07.UtfDecodes': WHATEVER THE INPUT: true; the input reads as it did. -/
def utfDecodesSpec : ChangeSpec := { name := "utfDecodes", fn := fun _ => fun
  | [d] => { results := [.lit (.bool true)], args := [d] }
  | _ => none }
def utfDecodesRow : OpenClaim := { program := "ytdhgombgbjldgaadoor", sum := "9d3ecaf2ba15451ed6de540d5b3094d2c877c11525d8efa7226c588abe89ede3", func := "scrivener/scrivenerlaw07.UtfDecodes", spec := "utfDecodes", named := ["scrivener/utf.heads"], apart := false, laid := [("scrivener/utf.heads", laid_scrivener_utf_heads)] }
def UtfDecodesSaid : Prop := utfDecodesRow.holds Tryd.pinned (OpenSpec.ofChange utfDecodesSpec)

/-- ITS FALSE NEIGHBOUR: 'it returns false'. Refute it at one input. -/
def utfDecodesWrong : ChangeSpec := { name := "utfDecodes", fn := fun _ => fun
  | [d] => { results := [.lit (.bool false)], args := [d] }
  | _ => none }
def UtfDecodesWrongFalsely : Prop := utfDecodesRow.holds Tryd.pinned (OpenSpec.ofChange utfDecodesWrong)

/-- 'scrivenerlaw07.UtfStarts': WHATEVER THE INPUT: true; the input reads as it did. -/
def utfStartsSpec : ChangeSpec := { name := "utfStarts", fn := fun _ => fun
  | [d1, d2] => { results := [.lit (.bool true)], args := [d1, d2] }
  | _ => none }
def utfStartsRow : OpenClaim := { program := "ytdhgombgbjldgaadoor", sum := "9d3ecaf2ba15451ed6de540d5b3094d2c877c11525d8efa7226c588abe89ede3", func := "scrivener/scrivenerlaw07.UtfStarts", spec := "utfStarts", named := ["scrivener/utf.heads"], apart := false, laid := [("scrivener/utf.heads", laid_scrivener_utf_heads)] }
def UtfStartsSaid : Prop := utfStartsRow.holds Tryd.pinned (OpenSpec.ofChange utfStartsSpec)

/-- ITS FALSE NEIGHBOUR: 'it returns false'. Refute it at one input. -/
def utfStartsWrong : ChangeSpec := { name := "utfStarts", fn := fun _ => fun
  | [d1, d2] => { results := [.lit (.bool false)], args := [d1, d2] }
  | _ => none }
def UtfStartsWrongFalsely : Prop := utfStartsRow.holds Tryd.pinned (OpenSpec.ofChange utfStartsWrong)

/-- 'scrivenerlaw12.TextSnaps': WHATEVER THE INPUT: true; the input reads as it did. -/
def textSnapsSpec : ChangeSpec := { name := "textSnaps", fn := fun _ => fun
  | [d1, d2, d3] => { results := [.lit (.bool true)], args := [d1, d2, d3] }
  | _ => none }
def textSnapsRow : OpenClaim := { program := "ytdhgombgbjldgaadoor", sum := "9d3ecaf2ba15451ed6de540d5b3094d2c877c11525d8efa7226c588abe89ede3", func := "scrivener/scrivenerlaw12.TextSnaps", spec := "textSnaps", inPlace := ["internal/bytealg.Count", "internal/bytealg.IndexByte", "internal/bytealg.Index"], unfollowed := true, recurses := true, named := ["internal/bytealg.MaxLen", "scrivener/utf.heads"], apart := false, laid := [("scrivener/utf.heads", laid_scrivener_utf_heads)] }
def TextSnapsSaid : Prop := textSnapsRow.holds Tryd.pinned (OpenSpec.ofChange textSnapsSpec)

/-- ITS FALSE NEIGHBOUR: 'it returns false'. Refute it at one input. -/
def textSnapsWrong : ChangeSpec := { name := "textSnaps", fn := fun _ => fun
  | [d1, d2, d3] => { results := [.lit (.bool false)], args := [d1, d2, d3] }
  | _ => none }
def TextSnapsWrongFalsely : Prop := textSnapsRow.holds Tryd.pinned (OpenSpec.ofChange textSnapsWrong)

/-- 'scrivenerlaw12.TextNone': WHATEVER THE INPUT: true; the input reads as it did. -/
def textNoneSpec : ChangeSpec := { name := "textNone", fn := fun _ => fun
  | [d] => { results := [.lit (.bool true)], args := [d] }
  | _ => none }
def textNoneRow : OpenClaim := { program := "ytdhgombgbjldgaadoor", sum := "9d3ecaf2ba15451ed6de540d5b3094d2c877c11525d8efa7226c588abe89ede3", func := "scrivener/scrivenerlaw12.TextNone", spec := "textNone", inPlace := ["internal/bytealg.Count", "internal/bytealg.IndexByte", "internal/bytealg.Index"], unfollowed := true, recurses := true, named := ["internal/bytealg.MaxLen", "scrivener/utf.heads"], apart := false, laid := [("scrivener/utf.heads", laid_scrivener_utf_heads)] }
def TextNoneSaid : Prop := textNoneRow.holds Tryd.pinned (OpenSpec.ofChange textNoneSpec)

/-- ITS FALSE NEIGHBOUR: 'it returns false'. Refute it at one input. -/
def textNoneWrong : ChangeSpec := { name := "textNone", fn := fun _ => fun
  | [d] => { results := [.lit (.bool false)], args := [d] }
  | _ => none }
def TextNoneWrongFalsely : Prop := textNoneRow.holds Tryd.pinned (OpenSpec.ofChange textNoneWrong)

/- THE SECOND FORM. 'bulk': how many values and letters a reading holds, each counted each time it is reached (what is shared counts as often as it is met; a slice's spare places count too). A statement '..UptoSaid' is the law's where the arguments, and the package variables that the reading takes, are together of bulk at most 1048576: NARROWER than '..Said'. Prove '..Said' where nothing that the law and all that it calls make is longer than what came in: it says more and counts as full. Else prove '..UptoSaid'. A law counts once. -/
mutual
def uptoBulk {H : Type} : DataW H → Nat
  | .lit (.string bytes) => bytes.length + 1
  | .lit _ => 1
  | .nil => 1
  | .ptr d => uptoBulk d + 1
  | .slice elems spare => uptoBulkAll elems + uptoBulkAll spare + 1
  | .agg parts => uptoBulkAll parts + 1
  | .iface _ d => uptoBulk d + 1
  | .map entries => uptoBulkEntries entries + 1
  | .held _ => 1
def uptoBulkAll {H : Type} : List (DataW H) → Nat
  | [] => 0
  | d :: r => uptoBulk d + uptoBulkAll r
def uptoBulkEntries {H : Type} : List (Lit × DataW H) → Nat
  | [] => 0
  | x :: r => uptoBulkEntry x + uptoBulkEntries r
def uptoBulkEntry {H : Type} : Lit × DataW H → Nat
  | (.string bytes, d) => bytes.length + uptoBulk d + 1
  | (_, d) => uptoBulk d + 1
 end
def uptoSmall : (H : Type) → List (DataW H) → Bool := fun _ ds => decide (uptoBulkAll ds ≤ 1048576)
def OpenSpec.upto (s : _root_.Go.ChangeSpec) : _root_.Go.OpenSpec := { _root_.Go.OpenSpec.ofChange s with cond := some uptoSmall }

/-- 'scrivenerlaw07.UtfDecodes', WHERE WHAT IT READS IS OF BULK AT MOST 1048576: true; the input reads as it did. -/
def utfDecodesUptoRow : OpenClaim := { program := "ytdhgombgbjldgaadoor", sum := "9d3ecaf2ba15451ed6de540d5b3094d2c877c11525d8efa7226c588abe89ede3", func := "scrivener/scrivenerlaw07.UtfDecodes", spec := "utfDecodes", named := ["scrivener/utf.heads"], apart := false, laid := [("scrivener/utf.heads", laid_scrivener_utf_heads)], narrowed := true }
def UtfDecodesUptoSaid : Prop := utfDecodesUptoRow.holds Tryd.pinned (OpenSpec.upto utfDecodesSpec)

/-- 'scrivenerlaw07.UtfStarts', WHERE WHAT IT READS IS OF BULK AT MOST 1048576: true; the input reads as it did. -/
def utfStartsUptoRow : OpenClaim := { program := "ytdhgombgbjldgaadoor", sum := "9d3ecaf2ba15451ed6de540d5b3094d2c877c11525d8efa7226c588abe89ede3", func := "scrivener/scrivenerlaw07.UtfStarts", spec := "utfStarts", named := ["scrivener/utf.heads"], apart := false, laid := [("scrivener/utf.heads", laid_scrivener_utf_heads)], narrowed := true }
def UtfStartsUptoSaid : Prop := utfStartsUptoRow.holds Tryd.pinned (OpenSpec.upto utfStartsSpec)

/-- 'scrivenerlaw12.TextSnaps', WHERE WHAT IT READS IS OF BULK AT MOST 1048576: true; the input reads as it did. -/
def textSnapsUptoRow : OpenClaim := { program := "ytdhgombgbjldgaadoor", sum := "9d3ecaf2ba15451ed6de540d5b3094d2c877c11525d8efa7226c588abe89ede3", func := "scrivener/scrivenerlaw12.TextSnaps", spec := "textSnaps", inPlace := ["internal/bytealg.Count", "internal/bytealg.IndexByte", "internal/bytealg.Index"], unfollowed := true, recurses := true, named := ["internal/bytealg.MaxLen", "scrivener/utf.heads"], apart := false, laid := [("scrivener/utf.heads", laid_scrivener_utf_heads)], narrowed := true }
def TextSnapsUptoSaid : Prop := textSnapsUptoRow.holds Tryd.pinned (OpenSpec.upto textSnapsSpec)

/-- 'scrivenerlaw12.TextNone', WHERE WHAT IT READS IS OF BULK AT MOST 1048576: true; the input reads as it did. -/
def textNoneUptoRow : OpenClaim := { program := "ytdhgombgbjldgaadoor", sum := "9d3ecaf2ba15451ed6de540d5b3094d2c877c11525d8efa7226c588abe89ede3", func := "scrivener/scrivenerlaw12.TextNone", spec := "textNone", inPlace := ["internal/bytealg.Count", "internal/bytealg.IndexByte", "internal/bytealg.Index"], unfollowed := true, recurses := true, named := ["internal/bytealg.MaxLen", "scrivener/utf.heads"], apart := false, laid := [("scrivener/utf.heads", laid_scrivener_utf_heads)], narrowed := true }
def TextNoneUptoSaid : Prop := textNoneUptoRow.holds Tryd.pinned (OpenSpec.upto textNoneSpec)

end Rows
end Go.Proofs.YtdhgombgbjldgaaDoor
