/- shade: what the program's row of colours holds. -/
import Derived.Test.YthhaacekfgdoeaaDoorShdM
namespace Go.Proofs.YthhaacekfgdoeaaDoor
set_option linter.unusedSimpArgs false
set_option linter.unusedVariables false
set_option linter.unusedSectionVars false
open Go.RowKit

/-- what the program's row of colours holds -/
def GlobI (w : World) : Prop := ∀ j, j < 8 → w.cell? ⟨0, j, none⟩ = some (.int .u32 (inkL.getD j 0))
theorem GlobI.later {w w' : World} (h : AnyLater w w') (g : GlobI w) : GlobI w' := fun j hj => (h.below.cell (World.block_lt_of_cell? _ _ (g j hj))).trans (g j hj)
end Go.Proofs.YthhaacekfgdoeaaDoor
