/-
  DERIVED. GIVEN WITH THE SEED: THE CARDS: each row of YthhaacekfgdoeaaDoorRows.lean that lists a variable, with what it lists TIED to the program's text (the seventh form; the later family's looks); each row that meets fmt, with fmt's text TOLD by the authors' own Lean function (tested against real Go, not proved from fmt's source: count such statements apart). THE CARD IS WHAT COUNTS. Prove the row's statement (the work); the ties are given (YthhaacekfgdoeaaDoorTie.lean); close each card by the builder's one call (the guide's Derived/Test/ToyasCard.lean, 'card_holds'). Laid BY PROGRAM, IN A SANDBOX (cutbox-door.mjs). By AI agents, Wed Nov 11 2026. No macro, syntax, notation, axiom, sorry.
-/
import Derived.Test.YthhaacekfgdoeaaDoorRows
import GoSem.ClaimSeven
namespace Go.Proofs.YthhaacekfgdoeaaDoor
namespace Rows

/-- THE TIED CARD OF 'scrivenerlaw09.ShadeStyles'. -/
def shadeStylesCard : Claim7 := { stood := { row := shadeStylesRow, standIns := [], harness := (true, "64b62d37fe2c5ce207f3718b0415c13fb4f23870104952c82d7648e9109b029f"), looks := false }, kinds := [], alts := [], laidByText := true, laidKinds := [.data], laidTests := true, laidLooks := .later }
def ShadeStylesCardSaid : Prop := Claim7.holds Tryd.pinned (.plain (OpenSpec.ofChange shadeStylesSpec)) shadeStylesCard

/-- THE SECOND FORM's CARD OF 'scrivenerlaw09.ShadeStyles'. -/
def shadeStylesUptoCard : Claim7 := { stood := { row := shadeStylesUptoRow, standIns := [], harness := (true, "64b62d37fe2c5ce207f3718b0415c13fb4f23870104952c82d7648e9109b029f"), looks := false }, kinds := [], alts := [], laidByText := true, laidKinds := [.data], laidTests := true, laidLooks := .later }
def ShadeStylesUptoCardSaid : Prop := Claim7.holds Tryd.pinned (.plain (OpenSpec.upto shadeStylesSpec)) shadeStylesUptoCard
end Rows
end Go.Proofs.YthhaacekfgdoeaaDoor
