/- runs: rows of runs that are put on; the document's Fair and Small by contract. -/
import Derived.Test.YtcbcbblclpongaaRunB
import Derived.Test.YtcbcbblclpongaaNums
import Derived.Deep.DeepCutAuto
import Derived.BigQuiet
namespace Go.Proofs.Ytcbcbblclpongaa
set_option linter.unusedSimpArgs false
set_option linter.unusedVariables false
set_option linter.unusedSectionVars false
open Go.RowKit

/-! ### Fair, Small -/
def NumsR (l : Runs) : Prop := ∀ r ∈ l, I64s r.1 ∧ I64s r.2
theorem NumsR.take {l : Runs} (h : NumsR l) (n : Nat) : NumsR (l.take n) := fun r hr => h r (List.mem_of_mem_take hr)
theorem fairR_split (n s : Int) (c : Bool) (hc : fairR (n, s) = c) : (decide (1 ≤ n) && decide (n ≤ 16777216) && goodS s) = c := by
  rw [← hc]; unfold fairR; simp [Bool.decide_and]
theorem styles_take {l : Runs} {j : Nat} (h : j < l.length) : stylesR (l.take (j + 1)) = stylesR (l.take j) ++ oneR l[j] := by
  rw [List.take_succ_eq_append_getElem h, stylesR_append]
  simp [stylesR]
theorem styles_le (l : Runs) (j : Nat) : (stylesR (l.take j)).length ≤ (stylesR l).length := by
  conv => rhs; rw [← List.take_append_drop j l, stylesR_append, List.length_append]
  omega
def smallR (l : Runs) : Bool := decide ((stylesR l).length ≤ 4000) && decide (l.length ≤ 100)
end Go.Proofs.Ytcbcbblclpongaa
