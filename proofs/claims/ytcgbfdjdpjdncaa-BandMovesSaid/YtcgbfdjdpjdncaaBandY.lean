/- band: all the laws' walks, and what the program's functions tell, in one place. -/
import Derived.Test.YtcgbfdjdpjdncaaBandX
import Derived.Test.YtcgbfdjdpjdncaaBandE
import Derived.Test.YtcgbfdjdpjdncaaBandF
import Derived.Test.YtcgbfdjdpjdncaaBandH
namespace Go.Proofs.Ytcgbfdjdpjdncaa
set_option linter.unusedSimpArgs false
set_option linter.unusedVariables false
set_option linter.unusedSectionVars false
open Go.RowKit

theorem sets_walk (v1 v2 : Value) (l1 l2 : Bands) (w : World) (h1 : RB w v1 l1) (h2 : RB w v2 l2) (n1 : Nums l1) (n2 : Nums l2) : Calls Try.prog 3 #[v1, v2] w fun e w' => e = .returned (.bool true) ∧ AnyLater w w' := sets_law says v1 v2 l1 l2 w h1 h2 n1 n2
end Go.Proofs.Ytcgbfdjdpjdncaa
