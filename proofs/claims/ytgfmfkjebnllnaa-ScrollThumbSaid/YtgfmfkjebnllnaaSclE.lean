/- scroll: what band's Less and Move tell, as they are in this program. -/
import Derived.Test.YtgfmfkjebnllnaaSclC
import Derived.Test.YtgfmfkjebnllnaaSclD
import Derived.Test.YtgfmfkjebnllnaaBandW
namespace Go.Proofs.Ytgfmfkjebnllnaa
set_option linter.unusedSimpArgs false
set_option linter.unusedVariables false
set_option linter.unusedSectionVars false
theorem ssays : SSays where
  less v v2 l l2 w hr hr2 hn hn2 := less_any v v2 l l2 w hr hr2 (by omega) (by omega)
  move v l d f t w hr hn := move_any v l d f t w hr (by omega)
end Go.Proofs.Ytgfmfkjebnllnaa
