/-
  No cell of these rows narrows 'for every input' (looked for: loops, veiled, ifaces, maps, wideKeys, modest, calm, conditions, laid).
  DERIVED. THE GIVEN ROWS OF THIS SEAT. 10 by the template 'for every input the law returns true; each argument reads behind the call as it read before'; 0 by the template 'total and deterministic' (their statements: YtbgpjfiabefajaaTotals.lean).
  GIVEN WITH THE SEED: the statements are not yours to turn. If you find one false, say at which input.
  Laid BY PROGRAM, IN A SANDBOX (cutbox-rows.mjs): the forced cells as the released guide's own fill.sh prints them over the translation 80c4798262c55752… (all of the seat's roots in one cut). By AI agents, Wed Nov 11 2026. No macro, syntax, notation, axiom, sorry.
-/
import Derived.Test.YtbgpjfiabefajaaChecked
import GoSem.Claim
import GoSem.ClaimJoined
import GoSem.ClaimMapViews
import Derived.JoinedTies
import Derived.KernelRfl
namespace Go.Proofs.Ytbgpjfiabefajaa
/- THE CELL 'sum', in the pinned program and in every row, IS THE sha256 OF THE DUMP (.gsa) THAT YtbgpjfiabefajaaProg.lean LOADS. Nothing in Lean hashes anything: it is a label: what it is worth is what the hold of that sum in a sandbox is worth. -/
noncomputable def Try.pinned : Pinned := { name := "ytbgpjfiabefajaa", sum := "80c4798262c5575205e28451fa8f36b0e6c5d2db1b2f0503276754b55c1693ac", checked := Try.checked }
namespace Rows
def none {H : Type} : Left H := { results := [], args := [] }

/-- 'scrivenerlaw05.FramePlays': WHATEVER THE INPUT: true; the input reads as it did. -/
def framePlaysSpec : ChangeSpec := { name := "framePlays", fn := fun _ => fun
  | [d1, d2, d3] => { results := [.lit (.bool true)], args := [d1, d2, d3] }
  | _ => none }
def framePlaysRow : OpenClaim := { program := "ytbgpjfiabefajaa", sum := "80c4798262c5575205e28451fa8f36b0e6c5d2db1b2f0503276754b55c1693ac", func := "scrivener/scrivenerlaw05.FramePlays", spec := "framePlays", apart := false }
def FramePlaysSaid : Prop := framePlaysRow.holds Try.pinned (OpenSpec.ofChange framePlaysSpec)

/-- ITS FALSE NEIGHBOUR: 'it returns false'. Refute it at one input. -/
def framePlaysWrong : ChangeSpec := { name := "framePlays", fn := fun _ => fun
  | [d1, d2, d3] => { results := [.lit (.bool false)], args := [d1, d2, d3] }
  | _ => none }
def FramePlaysWrongFalsely : Prop := framePlaysRow.holds Try.pinned (OpenSpec.ofChange framePlaysWrong)

/-- 'scrivenerlaw05.FrameBack': WHATEVER THE INPUT: true; the input reads as it did. -/
def frameBackSpec : ChangeSpec := { name := "frameBack", fn := fun _ => fun
  | [d1, d2] => { results := [.lit (.bool true)], args := [d1, d2] }
  | _ => none }
def frameBackRow : OpenClaim := { program := "ytbgpjfiabefajaa", sum := "80c4798262c5575205e28451fa8f36b0e6c5d2db1b2f0503276754b55c1693ac", func := "scrivener/scrivenerlaw05.FrameBack", spec := "frameBack", apart := false }
def FrameBackSaid : Prop := frameBackRow.holds Try.pinned (OpenSpec.ofChange frameBackSpec)

/-- ITS FALSE NEIGHBOUR: 'it returns false'. Refute it at one input. -/
def frameBackWrong : ChangeSpec := { name := "frameBack", fn := fun _ => fun
  | [d1, d2] => { results := [.lit (.bool false)], args := [d1, d2] }
  | _ => none }
def FrameBackWrongFalsely : Prop := frameBackRow.holds Try.pinned (OpenSpec.ofChange frameBackWrong)

/-- 'scrivenerlaw05.FrameClones': WHATEVER THE INPUT: true; the input reads as it did. -/
def frameClonesSpec : ChangeSpec := { name := "frameClones", fn := fun _ => fun
  | [d1, d2] => { results := [.lit (.bool true)], args := [d1, d2] }
  | _ => none }
def frameClonesRow : OpenClaim := { program := "ytbgpjfiabefajaa", sum := "80c4798262c5575205e28451fa8f36b0e6c5d2db1b2f0503276754b55c1693ac", func := "scrivener/scrivenerlaw05.FrameClones", spec := "frameClones", apart := false }
def FrameClonesSaid : Prop := frameClonesRow.holds Try.pinned (OpenSpec.ofChange frameClonesSpec)

/-- ITS FALSE NEIGHBOUR: 'it returns false'. Refute it at one input. -/
def frameClonesWrong : ChangeSpec := { name := "frameClones", fn := fun _ => fun
  | [d1, d2] => { results := [.lit (.bool false)], args := [d1, d2] }
  | _ => none }
def FrameClonesWrongFalsely : Prop := frameClonesRow.holds Try.pinned (OpenSpec.ofChange frameClonesWrong)

/-- 'scrivenerlaw06.GlyphBits': WHATEVER THE INPUT: true; the input reads as it did. -/
def glyphBitsSpec : ChangeSpec := { name := "glyphBits", fn := fun _ => fun
  | [d1, d2, d3] => { results := [.lit (.bool true)], args := [d1, d2, d3] }
  | _ => none }
def glyphBitsRow : OpenClaim := { program := "ytbgpjfiabefajaa", sum := "80c4798262c5575205e28451fa8f36b0e6c5d2db1b2f0503276754b55c1693ac", func := "scrivener/scrivenerlaw06.GlyphBits", spec := "glyphBits", unfollowed := true, recurses := true, apart := false }
def GlyphBitsSaid : Prop := glyphBitsRow.holds Try.pinned (OpenSpec.ofChange glyphBitsSpec)

/-- ITS FALSE NEIGHBOUR: 'it returns false'. Refute it at one input. -/
def glyphBitsWrong : ChangeSpec := { name := "glyphBits", fn := fun _ => fun
  | [d1, d2, d3] => { results := [.lit (.bool false)], args := [d1, d2, d3] }
  | _ => none }
def GlyphBitsWrongFalsely : Prop := glyphBitsRow.holds Try.pinned (OpenSpec.ofChange glyphBitsWrong)

/-- 'scrivenerlaw06.GlyphDraws': WHATEVER THE INPUT: true; the input reads as it did. -/
def glyphDrawsSpec : ChangeSpec := { name := "glyphDraws", fn := fun _ => fun
  | [d1, d2, d3] => { results := [.lit (.bool true)], args := [d1, d2, d3] }
  | _ => none }
def glyphDrawsRow : OpenClaim := { program := "ytbgpjfiabefajaa", sum := "80c4798262c5575205e28451fa8f36b0e6c5d2db1b2f0503276754b55c1693ac", func := "scrivener/scrivenerlaw06.GlyphDraws", spec := "glyphDraws", unfollowed := true, recurses := true, apart := false }
def GlyphDrawsSaid : Prop := glyphDrawsRow.holds Try.pinned (OpenSpec.ofChange glyphDrawsSpec)

/-- ITS FALSE NEIGHBOUR: 'it returns false'. Refute it at one input. -/
def glyphDrawsWrong : ChangeSpec := { name := "glyphDraws", fn := fun _ => fun
  | [d1, d2, d3] => { results := [.lit (.bool false)], args := [d1, d2, d3] }
  | _ => none }
def GlyphDrawsWrongFalsely : Prop := glyphDrawsRow.holds Try.pinned (OpenSpec.ofChange glyphDrawsWrong)

/-- 'scrivenerlaw06.GlyphMakes': WHATEVER THE INPUT: true; the input reads as it did. -/
def glyphMakesSpec : ChangeSpec := { name := "glyphMakes", fn := fun _ => fun
  | [d1, d2, d3] => { results := [.lit (.bool true)], args := [d1, d2, d3] }
  | _ => none }
def glyphMakesRow : OpenClaim := { program := "ytbgpjfiabefajaa", sum := "80c4798262c5575205e28451fa8f36b0e6c5d2db1b2f0503276754b55c1693ac", func := "scrivener/scrivenerlaw06.GlyphMakes", spec := "glyphMakes", unfollowed := true, recurses := true, apart := false }
def GlyphMakesSaid : Prop := glyphMakesRow.holds Try.pinned (OpenSpec.ofChange glyphMakesSpec)

/-- ITS FALSE NEIGHBOUR: 'it returns false'. Refute it at one input. -/
def glyphMakesWrong : ChangeSpec := { name := "glyphMakes", fn := fun _ => fun
  | [d1, d2, d3] => { results := [.lit (.bool false)], args := [d1, d2, d3] }
  | _ => none }
def GlyphMakesWrongFalsely : Prop := glyphMakesRow.holds Try.pinned (OpenSpec.ofChange glyphMakesWrong)

/-- 'scrivenerlaw06.GlyphWide': WHATEVER THE INPUT: true; the input reads as it did. -/
def glyphWideSpec : ChangeSpec := { name := "glyphWide", fn := fun _ => fun
  | [d1, d2, d3] => { results := [.lit (.bool true)], args := [d1, d2, d3] }
  | _ => none }
def glyphWideRow : OpenClaim := { program := "ytbgpjfiabefajaa", sum := "80c4798262c5575205e28451fa8f36b0e6c5d2db1b2f0503276754b55c1693ac", func := "scrivener/scrivenerlaw06.GlyphWide", spec := "glyphWide", unfollowed := true, recurses := true, apart := false }
def GlyphWideSaid : Prop := glyphWideRow.holds Try.pinned (OpenSpec.ofChange glyphWideSpec)

/-- ITS FALSE NEIGHBOUR: 'it returns false'. Refute it at one input. -/
def glyphWideWrong : ChangeSpec := { name := "glyphWide", fn := fun _ => fun
  | [d1, d2, d3] => { results := [.lit (.bool false)], args := [d1, d2, d3] }
  | _ => none }
def GlyphWideWrongFalsely : Prop := glyphWideRow.holds Try.pinned (OpenSpec.ofChange glyphWideWrong)

/-- 'scrivenerlaw08.FaceColumns': WHATEVER THE INPUT: true; the input reads as it did. -/
def faceColumnsSpec : ChangeSpec := { name := "faceColumns", fn := fun _ => fun
  | [d] => { results := [.lit (.bool true)], args := [d] }
  | _ => none }
def faceColumnsRow : OpenClaim := { program := "ytbgpjfiabefajaa", sum := "80c4798262c5575205e28451fa8f36b0e6c5d2db1b2f0503276754b55c1693ac", func := "scrivener/scrivenerlaw08.FaceColumns", spec := "faceColumns", recurses := true, apart := false }
def FaceColumnsSaid : Prop := faceColumnsRow.holds Try.pinned (OpenSpec.ofChange faceColumnsSpec)

/-- ITS FALSE NEIGHBOUR: 'it returns false'. Refute it at one input. -/
def faceColumnsWrong : ChangeSpec := { name := "faceColumns", fn := fun _ => fun
  | [d] => { results := [.lit (.bool false)], args := [d] }
  | _ => none }
def FaceColumnsWrongFalsely : Prop := faceColumnsRow.holds Try.pinned (OpenSpec.ofChange faceColumnsWrong)

/-- 'scrivenerlaw08.FaceGlyphs': WHATEVER THE INPUT: true; the input reads as it did. -/
def faceGlyphsSpec : ChangeSpec := { name := "faceGlyphs", fn := fun _ => fun
  | [d1, d2] => { results := [.lit (.bool true)], args := [d1, d2] }
  | _ => none }
def faceGlyphsRow : OpenClaim := { program := "ytbgpjfiabefajaa", sum := "80c4798262c5575205e28451fa8f36b0e6c5d2db1b2f0503276754b55c1693ac", func := "scrivener/scrivenerlaw08.FaceGlyphs", spec := "faceGlyphs", unfollowed := true, recurses := true, apart := false }
def FaceGlyphsSaid : Prop := faceGlyphsRow.holds Try.pinned (OpenSpec.ofChange faceGlyphsSpec)

/-- ITS FALSE NEIGHBOUR: 'it returns false'. Refute it at one input. -/
def faceGlyphsWrong : ChangeSpec := { name := "faceGlyphs", fn := fun _ => fun
  | [d1, d2] => { results := [.lit (.bool false)], args := [d1, d2] }
  | _ => none }
def FaceGlyphsWrongFalsely : Prop := faceGlyphsRow.holds Try.pinned (OpenSpec.ofChange faceGlyphsWrong)

/-- 'scrivenerlaw08.FaceUnknown': WHATEVER THE INPUT: true; the input reads as it did. -/
def faceUnknownSpec : ChangeSpec := { name := "faceUnknown", fn := fun _ => fun
  | [d1, d2, d3] => { results := [.lit (.bool true)], args := [d1, d2, d3] }
  | _ => none }
def faceUnknownRow : OpenClaim := { program := "ytbgpjfiabefajaa", sum := "80c4798262c5575205e28451fa8f36b0e6c5d2db1b2f0503276754b55c1693ac", func := "scrivener/scrivenerlaw08.FaceUnknown", spec := "faceUnknown", unfollowed := true, recurses := true, apart := false }
def FaceUnknownSaid : Prop := faceUnknownRow.holds Try.pinned (OpenSpec.ofChange faceUnknownSpec)

/-- ITS FALSE NEIGHBOUR: 'it returns false'. Refute it at one input. -/
def faceUnknownWrong : ChangeSpec := { name := "faceUnknown", fn := fun _ => fun
  | [d1, d2, d3] => { results := [.lit (.bool false)], args := [d1, d2, d3] }
  | _ => none }
def FaceUnknownWrongFalsely : Prop := faceUnknownRow.holds Try.pinned (OpenSpec.ofChange faceUnknownWrong)

/- THE SECOND FORM. 'bulk': how many values and letters a reading holds, each counted each time it is reached (what is shared counts as often as it is met; a slice's spare places count too). A statement '..UptoSaid' is the law's where the arguments, and the package variables that the reading takes, are together of bulk at most 1048576: NARROWER than '..Said'. Prove '..Said' where nothing that the law and all that it calls make is longer than what came in: it says more and counts as full. Else prove '..UptoSaid'. A law counts once. -/
mutual
def uptoBulk {H : Type} : DataW H → Nat
  | .lit (.string bytes) => bytes.length + 1
  | .lit _ => 1
  | .nil => 1
  | .ptr d => uptoBulk d + 1
  | .slice elems spare => uptoBulkAll elems + uptoBulkAll spare + 1
  | .agg parts => uptoBulkAll parts + 1
  | .iface _ d => uptoBulk d + 1
  | .map entries => uptoBulkEntries entries + 1
  | .held _ => 1
def uptoBulkAll {H : Type} : List (DataW H) → Nat
  | [] => 0
  | d :: r => uptoBulk d + uptoBulkAll r
def uptoBulkEntries {H : Type} : List (Lit × DataW H) → Nat
  | [] => 0
  | x :: r => uptoBulkEntry x + uptoBulkEntries r
def uptoBulkEntry {H : Type} : Lit × DataW H → Nat
  | (.string bytes, d) => bytes.length + uptoBulk d + 1
  | (_, d) => uptoBulk d + 1
 end
def uptoSmall : (H : Type) → List (DataW H) → Bool := fun _ ds => decide (uptoBulkAll ds ≤ 1048576)
def OpenSpec.upto (s : _root_.Go.ChangeSpec) : _root_.Go.OpenSpec := { _root_.Go.OpenSpec.ofChange s with cond := some uptoSmall }

/-- 'scrivenerlaw05.FramePlays', WHERE WHAT IT READS IS OF BULK AT MOST 1048576: true; the input reads as it did. -/
def framePlaysUptoRow : OpenClaim := { program := "ytbgpjfiabefajaa", sum := "80c4798262c5575205e28451fa8f36b0e6c5d2db1b2f0503276754b55c1693ac", func := "scrivener/scrivenerlaw05.FramePlays", spec := "framePlays", apart := false, narrowed := true }
def FramePlaysUptoSaid : Prop := framePlaysUptoRow.holds Try.pinned (OpenSpec.upto framePlaysSpec)

/-- 'scrivenerlaw05.FrameBack', WHERE WHAT IT READS IS OF BULK AT MOST 1048576: true; the input reads as it did. -/
def frameBackUptoRow : OpenClaim := { program := "ytbgpjfiabefajaa", sum := "80c4798262c5575205e28451fa8f36b0e6c5d2db1b2f0503276754b55c1693ac", func := "scrivener/scrivenerlaw05.FrameBack", spec := "frameBack", apart := false, narrowed := true }
def FrameBackUptoSaid : Prop := frameBackUptoRow.holds Try.pinned (OpenSpec.upto frameBackSpec)

/-- 'scrivenerlaw05.FrameClones', WHERE WHAT IT READS IS OF BULK AT MOST 1048576: true; the input reads as it did. -/
def frameClonesUptoRow : OpenClaim := { program := "ytbgpjfiabefajaa", sum := "80c4798262c5575205e28451fa8f36b0e6c5d2db1b2f0503276754b55c1693ac", func := "scrivener/scrivenerlaw05.FrameClones", spec := "frameClones", apart := false, narrowed := true }
def FrameClonesUptoSaid : Prop := frameClonesUptoRow.holds Try.pinned (OpenSpec.upto frameClonesSpec)

/-- 'scrivenerlaw06.GlyphBits', WHERE WHAT IT READS IS OF BULK AT MOST 1048576: true; the input reads as it did. -/
def glyphBitsUptoRow : OpenClaim := { program := "ytbgpjfiabefajaa", sum := "80c4798262c5575205e28451fa8f36b0e6c5d2db1b2f0503276754b55c1693ac", func := "scrivener/scrivenerlaw06.GlyphBits", spec := "glyphBits", unfollowed := true, recurses := true, apart := false, narrowed := true }
def GlyphBitsUptoSaid : Prop := glyphBitsUptoRow.holds Try.pinned (OpenSpec.upto glyphBitsSpec)

/-- 'scrivenerlaw06.GlyphDraws', WHERE WHAT IT READS IS OF BULK AT MOST 1048576: true; the input reads as it did. -/
def glyphDrawsUptoRow : OpenClaim := { program := "ytbgpjfiabefajaa", sum := "80c4798262c5575205e28451fa8f36b0e6c5d2db1b2f0503276754b55c1693ac", func := "scrivener/scrivenerlaw06.GlyphDraws", spec := "glyphDraws", unfollowed := true, recurses := true, apart := false, narrowed := true }
def GlyphDrawsUptoSaid : Prop := glyphDrawsUptoRow.holds Try.pinned (OpenSpec.upto glyphDrawsSpec)

/-- 'scrivenerlaw06.GlyphMakes', WHERE WHAT IT READS IS OF BULK AT MOST 1048576: true; the input reads as it did. -/
def glyphMakesUptoRow : OpenClaim := { program := "ytbgpjfiabefajaa", sum := "80c4798262c5575205e28451fa8f36b0e6c5d2db1b2f0503276754b55c1693ac", func := "scrivener/scrivenerlaw06.GlyphMakes", spec := "glyphMakes", unfollowed := true, recurses := true, apart := false, narrowed := true }
def GlyphMakesUptoSaid : Prop := glyphMakesUptoRow.holds Try.pinned (OpenSpec.upto glyphMakesSpec)

/-- 'scrivenerlaw06.GlyphWide', WHERE WHAT IT READS IS OF BULK AT MOST 1048576: true; the input reads as it did. -/
def glyphWideUptoRow : OpenClaim := { program := "ytbgpjfiabefajaa", sum := "80c4798262c5575205e28451fa8f36b0e6c5d2db1b2f0503276754b55c1693ac", func := "scrivener/scrivenerlaw06.GlyphWide", spec := "glyphWide", unfollowed := true, recurses := true, apart := false, narrowed := true }
def GlyphWideUptoSaid : Prop := glyphWideUptoRow.holds Try.pinned (OpenSpec.upto glyphWideSpec)

/-- 'scrivenerlaw08.FaceColumns', WHERE WHAT IT READS IS OF BULK AT MOST 1048576: true; the input reads as it did. -/
def faceColumnsUptoRow : OpenClaim := { program := "ytbgpjfiabefajaa", sum := "80c4798262c5575205e28451fa8f36b0e6c5d2db1b2f0503276754b55c1693ac", func := "scrivener/scrivenerlaw08.FaceColumns", spec := "faceColumns", recurses := true, apart := false, narrowed := true }
def FaceColumnsUptoSaid : Prop := faceColumnsUptoRow.holds Try.pinned (OpenSpec.upto faceColumnsSpec)

/-- 'scrivenerlaw08.FaceGlyphs', WHERE WHAT IT READS IS OF BULK AT MOST 1048576: true; the input reads as it did. -/
def faceGlyphsUptoRow : OpenClaim := { program := "ytbgpjfiabefajaa", sum := "80c4798262c5575205e28451fa8f36b0e6c5d2db1b2f0503276754b55c1693ac", func := "scrivener/scrivenerlaw08.FaceGlyphs", spec := "faceGlyphs", unfollowed := true, recurses := true, apart := false, narrowed := true }
def FaceGlyphsUptoSaid : Prop := faceGlyphsUptoRow.holds Try.pinned (OpenSpec.upto faceGlyphsSpec)

/-- 'scrivenerlaw08.FaceUnknown', WHERE WHAT IT READS IS OF BULK AT MOST 1048576: true; the input reads as it did. -/
def faceUnknownUptoRow : OpenClaim := { program := "ytbgpjfiabefajaa", sum := "80c4798262c5575205e28451fa8f36b0e6c5d2db1b2f0503276754b55c1693ac", func := "scrivener/scrivenerlaw08.FaceUnknown", spec := "faceUnknown", unfollowed := true, recurses := true, apart := false, narrowed := true }
def FaceUnknownUptoSaid : Prop := faceUnknownUptoRow.holds Try.pinned (OpenSpec.upto faceUnknownSpec)

end Rows
end Go.Proofs.Ytbgpjfiabefajaa
