/- runs: what the program's functions are to tell; lives; RunsTells, walked. -/
import Derived.Test.YtcbcbblclpongaaRunD
import Derived.Deep.RegionHeld
namespace Go.Proofs.Ytcbcbblclpongaa
set_option linter.unusedSimpArgs false
set_option linter.unusedVariables false
set_option linter.unusedSectionVars false
open Go.RowKit

theorem goodS_i64 {s : Int} (h : goodS s = true) : I64s s := by have := goodS_in h; constructor <;> omega
theorem nums_of {l : List Int} (h : ∀ s ∈ l, goodS s = true) (hl : l.length ≤ 16777216) : NumsR (ofR l) := fun r hr => by
  have := ofR_fair h r hr
  exact ⟨by constructor <;> omega, goodS_i64 this.2.2⟩
theorem nums_tidy (l : Runs) : NumsR (tidyR l) := nums_of sR_good (sR_len l)
end Go.Proofs.Ytcbcbblclpongaa
