/-
  DERIVED. GIVEN WITH THE SEED: THE CARDS: each row of YtamhnffokoejjaaGreatDoorRows.lean that lists a variable, with what it lists TIED to the program's text (the seventh form; the later family's looks); each row that meets fmt, with fmt's text TOLD by the authors' own Lean function (tested against real Go, not proved from fmt's source: count such statements apart). THE CARD IS WHAT COUNTS. Prove the row's statement (the work); the ties are given (YtamhnffokoejjaaGreatDoorTie.lean); close each card by the builder's one call (the guide's Derived/Test/ToyasCard.lean, 'card_holds'). Laid BY PROGRAM, IN A SANDBOX (cutbox-door.mjs). By AI agents, Wed Nov 11 2026. No macro, syntax, notation, axiom, sorry.
-/
import Derived.Test.YtamhnffokoejjaaGreatDoorRows
import GoSem.ClaimSeven
namespace Go.Proofs.YtamhnffokoejjaaGreatDoor
namespace Rows

/-- THE TIED CARD OF 'scrivenerlaw23.ScenePlays'. -/
def scenePlaysCard : Claim7 := { stood := { row := scenePlaysRow, standIns := [], harness := (true, "9c9ca287d2b75f2dea76afd7152f5cd108ac5bccd6caf9210148df0a13258bab"), looks := false }, kinds := [], alts := [], laidByText := true, laidKinds := [.data], laidTests := true, laidLooks := .later }
def ScenePlaysCardSaid : Prop := Claim7.holds Tryz.pinned (.plain (OpenSpec.ofChange scenePlaysSpec)) scenePlaysCard

/-- THE TIED CARD OF 'scrivenerlaw23.SceneLittle'. -/
def sceneLittleCard : Claim7 := { stood := { row := sceneLittleRow, standIns := [], harness := (true, "9c9ca287d2b75f2dea76afd7152f5cd108ac5bccd6caf9210148df0a13258bab"), looks := false }, kinds := [], alts := [], laidByText := true, laidKinds := [.data], laidTests := true, laidLooks := .later }
def SceneLittleCardSaid : Prop := Claim7.holds Tryz.pinned (.plain (OpenSpec.ofChange sceneLittleSpec)) sceneLittleCard

/-- THE TIED CARD OF 'scrivenerlaw23.SceneNew'. -/
def sceneNewCard : Claim7 := { stood := { row := sceneNewRow, standIns := [], harness := (true, "9c9ca287d2b75f2dea76afd7152f5cd108ac5bccd6caf9210148df0a13258bab"), looks := false }, kinds := [], alts := [], laidByText := true, laidKinds := [.data], laidTests := true, laidLooks := .later }
def SceneNewCardSaid : Prop := Claim7.holds Tryz.pinned (.plain (OpenSpec.ofChange sceneNewSpec)) sceneNewCard

/-- THE TIED CARD OF 'scrivenerlaw23.SceneNone'. -/
def sceneNoneCard : Claim7 := { stood := { row := sceneNoneRow, standIns := [], harness := (true, "9c9ca287d2b75f2dea76afd7152f5cd108ac5bccd6caf9210148df0a13258bab"), looks := false }, kinds := [], alts := [], laidByText := true, laidKinds := [.data], laidTests := true, laidLooks := .later }
def SceneNoneCardSaid : Prop := Claim7.holds Tryz.pinned (.plain (OpenSpec.ofChange sceneNoneSpec)) sceneNoneCard

/-- THE SECOND FORM's CARD OF 'scrivenerlaw23.ScenePlays'. -/
def scenePlaysUptoCard : Claim7 := { stood := { row := scenePlaysUptoRow, standIns := [], harness := (true, "9c9ca287d2b75f2dea76afd7152f5cd108ac5bccd6caf9210148df0a13258bab"), looks := false }, kinds := [], alts := [], laidByText := true, laidKinds := [.data], laidTests := true, laidLooks := .later }
def ScenePlaysUptoCardSaid : Prop := Claim7.holds Tryz.pinned (.plain (OpenSpec.upto scenePlaysSpec)) scenePlaysUptoCard

/-- THE SECOND FORM's CARD OF 'scrivenerlaw23.SceneLittle'. -/
def sceneLittleUptoCard : Claim7 := { stood := { row := sceneLittleUptoRow, standIns := [], harness := (true, "9c9ca287d2b75f2dea76afd7152f5cd108ac5bccd6caf9210148df0a13258bab"), looks := false }, kinds := [], alts := [], laidByText := true, laidKinds := [.data], laidTests := true, laidLooks := .later }
def SceneLittleUptoCardSaid : Prop := Claim7.holds Tryz.pinned (.plain (OpenSpec.upto sceneLittleSpec)) sceneLittleUptoCard

/-- THE SECOND FORM's CARD OF 'scrivenerlaw23.SceneNew'. -/
def sceneNewUptoCard : Claim7 := { stood := { row := sceneNewUptoRow, standIns := [], harness := (true, "9c9ca287d2b75f2dea76afd7152f5cd108ac5bccd6caf9210148df0a13258bab"), looks := false }, kinds := [], alts := [], laidByText := true, laidKinds := [.data], laidTests := true, laidLooks := .later }
def SceneNewUptoCardSaid : Prop := Claim7.holds Tryz.pinned (.plain (OpenSpec.upto sceneNewSpec)) sceneNewUptoCard

/-- THE SECOND FORM's CARD OF 'scrivenerlaw23.SceneNone'. -/
def sceneNoneUptoCard : Claim7 := { stood := { row := sceneNoneUptoRow, standIns := [], harness := (true, "9c9ca287d2b75f2dea76afd7152f5cd108ac5bccd6caf9210148df0a13258bab"), looks := false }, kinds := [], alts := [], laidByText := true, laidKinds := [.data], laidTests := true, laidLooks := .later }
def SceneNoneUptoCardSaid : Prop := Claim7.holds Tryz.pinned (.plain (OpenSpec.upto sceneNoneSpec)) sceneNoneUptoCard
end Rows
end Go.Proofs.YtamhnffokoejjaaGreatDoor
