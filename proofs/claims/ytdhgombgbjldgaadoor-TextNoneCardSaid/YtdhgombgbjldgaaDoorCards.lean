/-
  DERIVED. GIVEN WITH THE SEED: THE CARDS: each row of YtdhgombgbjldgaaDoorRows.lean that lists a variable, with what it lists TIED to the program's text (the seventh form; the later family's looks); each row that meets fmt, with fmt's text TOLD by the authors' own Lean function (tested against real Go, not proved from fmt's source: count such statements apart). THE CARD IS WHAT COUNTS. Prove the row's statement (the work); the ties are given (YtdhgombgbjldgaaDoorTie.lean); close each card by the builder's one call (the guide's Derived/Test/ToyasCard.lean, 'card_holds'). Laid BY PROGRAM, IN A SANDBOX (cutbox-door.mjs). By AI agents, Wed Nov 11 2026. No macro, syntax, notation, axiom, sorry.
-/
import Derived.Test.YtdhgombgbjldgaaDoorRows
import GoSem.ClaimSeven
namespace Go.Proofs.YtdhgombgbjldgaaDoor
namespace Rows

/-- THE TIED CARD OF 'scrivenerlaw07.UtfDecodes'. -/
def utfDecodesCard : Claim7 := { stood := { row := utfDecodesRow, standIns := [], harness := (true, "3ac0f239b835cd122129dabfc629bfbf638034e275ed2a90c86a7aad2fe77055"), looks := false }, kinds := [], alts := [], laidByText := true, laidKinds := [.data], laidTests := true, laidLooks := .later }
def UtfDecodesCardSaid : Prop := Claim7.holds Tryd.pinned (.plain (OpenSpec.ofChange utfDecodesSpec)) utfDecodesCard

/-- THE TIED CARD OF 'scrivenerlaw07.UtfStarts'. -/
def utfStartsCard : Claim7 := { stood := { row := utfStartsRow, standIns := [], harness := (true, "3ac0f239b835cd122129dabfc629bfbf638034e275ed2a90c86a7aad2fe77055"), looks := false }, kinds := [], alts := [], laidByText := true, laidKinds := [.data], laidTests := true, laidLooks := .later }
def UtfStartsCardSaid : Prop := Claim7.holds Tryd.pinned (.plain (OpenSpec.ofChange utfStartsSpec)) utfStartsCard

/-- THE TIED CARD OF 'scrivenerlaw12.TextSnaps'. -/
def textSnapsCard : Claim7 := { stood := { row := textSnapsRow, standIns := [], harness := (true, "3ac0f239b835cd122129dabfc629bfbf638034e275ed2a90c86a7aad2fe77055"), looks := false }, kinds := [], alts := [], laidByText := true, laidKinds := [.data], laidTests := true, laidLooks := .later }
def TextSnapsCardSaid : Prop := Claim7.holds Tryd.pinned (.plain (OpenSpec.ofChange textSnapsSpec)) textSnapsCard

/-- THE TIED CARD OF 'scrivenerlaw12.TextNone'. -/
def textNoneCard : Claim7 := { stood := { row := textNoneRow, standIns := [], harness := (true, "3ac0f239b835cd122129dabfc629bfbf638034e275ed2a90c86a7aad2fe77055"), looks := false }, kinds := [], alts := [], laidByText := true, laidKinds := [.data], laidTests := true, laidLooks := .later }
def TextNoneCardSaid : Prop := Claim7.holds Tryd.pinned (.plain (OpenSpec.ofChange textNoneSpec)) textNoneCard

/-- THE SECOND FORM's CARD OF 'scrivenerlaw07.UtfDecodes'. -/
def utfDecodesUptoCard : Claim7 := { stood := { row := utfDecodesUptoRow, standIns := [], harness := (true, "3ac0f239b835cd122129dabfc629bfbf638034e275ed2a90c86a7aad2fe77055"), looks := false }, kinds := [], alts := [], laidByText := true, laidKinds := [.data], laidTests := true, laidLooks := .later }
def UtfDecodesUptoCardSaid : Prop := Claim7.holds Tryd.pinned (.plain (OpenSpec.upto utfDecodesSpec)) utfDecodesUptoCard

/-- THE SECOND FORM's CARD OF 'scrivenerlaw07.UtfStarts'. -/
def utfStartsUptoCard : Claim7 := { stood := { row := utfStartsUptoRow, standIns := [], harness := (true, "3ac0f239b835cd122129dabfc629bfbf638034e275ed2a90c86a7aad2fe77055"), looks := false }, kinds := [], alts := [], laidByText := true, laidKinds := [.data], laidTests := true, laidLooks := .later }
def UtfStartsUptoCardSaid : Prop := Claim7.holds Tryd.pinned (.plain (OpenSpec.upto utfStartsSpec)) utfStartsUptoCard

/-- THE SECOND FORM's CARD OF 'scrivenerlaw12.TextSnaps'. -/
def textSnapsUptoCard : Claim7 := { stood := { row := textSnapsUptoRow, standIns := [], harness := (true, "3ac0f239b835cd122129dabfc629bfbf638034e275ed2a90c86a7aad2fe77055"), looks := false }, kinds := [], alts := [], laidByText := true, laidKinds := [.data], laidTests := true, laidLooks := .later }
def TextSnapsUptoCardSaid : Prop := Claim7.holds Tryd.pinned (.plain (OpenSpec.upto textSnapsSpec)) textSnapsUptoCard

/-- THE SECOND FORM's CARD OF 'scrivenerlaw12.TextNone'. -/
def textNoneUptoCard : Claim7 := { stood := { row := textNoneUptoRow, standIns := [], harness := (true, "3ac0f239b835cd122129dabfc629bfbf638034e275ed2a90c86a7aad2fe77055"), looks := false }, kinds := [], alts := [], laidByText := true, laidKinds := [.data], laidTests := true, laidLooks := .later }
def TextNoneUptoCardSaid : Prop := Claim7.holds Tryd.pinned (.plain (OpenSpec.upto textNoneSpec)) textNoneUptoCard
end Rows
end Go.Proofs.YtdhgombgbjldgaaDoor
