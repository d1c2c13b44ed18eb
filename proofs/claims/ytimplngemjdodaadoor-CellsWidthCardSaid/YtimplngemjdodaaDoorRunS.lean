/- runs, the program: At, slices.Equal, Good of any runs. -/
import Derived.Test.YtimplngemjdodaaDoorRunR
namespace Go.Proofs.YtimplngemjdodaaDoor
set_option linter.unusedSimpArgs false
set_option linter.unusedVariables false
set_option linter.unusedSectionVars false
open Go.RowKit

/-! ### At -/
theorem at_step {l : Runs} {j k : Nat} {n s : Int} (hj : j < l.length) (hl : l[j] = (n, s)) (hf : fairR (n, s) = true) (h1 : (stylesR (l.take j)).length ≤ k) (h2 : (k : Int) < (stylesR (l.take j)).length + n) : (stylesR l).getD k 0 = s := by
  have e : stylesR l = stylesR (l.take j) ++ (oneR (n, s) ++ stylesR (l.drop (j + 1))) := by
    conv => lhs; rw [← List.take_append_drop (j + 1) l, stylesR_append, styles_take hj, hl]
    rw [List.append_assoc]
  obtain ⟨e1, e2⟩ := oneR_yes hf
  rw [e, List.getD_eq_getElem?_getD, List.getElem?_append_right h1, e1, List.getElem?_append_left (by rw [List.length_replicate]; omega), List.getElem?_replicate, if_pos (by omega)]
  rfl
/-! ### slices.Equal -/
/-! ### Good -/
end Go.Proofs.YtimplngemjdodaaDoor
