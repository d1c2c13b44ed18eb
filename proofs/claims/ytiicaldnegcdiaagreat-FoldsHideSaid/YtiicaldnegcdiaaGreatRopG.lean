/- rope: the last piece taken off, two parts side by side, a part split: by contract. -/
import Derived.Test.YtiicaldnegcdiaaGreatRopF
namespace Go.Proofs.YtiicaldnegcdiaaGreat
set_option linter.unusedSimpArgs false
set_option linter.unusedVariables false
set_option linter.unusedSectionVars false
open Go.RowKit

def isL (t : Tr × Pc) (v : Value) (w : World) : Prop := ∃ u bv fv, v = .tuple #[u, pcV bv fv t.2] ∧ IsT w t.1 u ∧ RIsP w bv fv t.2
end Go.Proofs.YtiicaldnegcdiaaGreat
