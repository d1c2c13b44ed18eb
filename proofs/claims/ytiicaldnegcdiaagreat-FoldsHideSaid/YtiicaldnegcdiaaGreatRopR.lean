/- rope: the document's own text: a part of it, where its line feeds are: by contract. -/
import Derived.Test.YtiicaldnegcdiaaGreatRopQ
namespace Go.Proofs.YtiicaldnegcdiaaGreat
set_option linter.unusedSimpArgs false
set_option linter.unusedVariables false
set_option linter.unusedSectionVars false
open Go.RowKit

theorem isB_new {w w' : World} {g : Nat} (h : w'.heap[g]? = some (.cells #[] 5)) : isB [] (.slice (some ⟨g, 0, none⟩) 0 0) w' := ⟨_, 0, rfl, Nat.le_refl _, fun h => by simp at h⟩
end Go.Proofs.YtiicaldnegcdiaaGreat
