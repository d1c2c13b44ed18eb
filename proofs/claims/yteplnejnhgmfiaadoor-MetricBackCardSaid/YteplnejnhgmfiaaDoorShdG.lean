/- shade: which styles are good: the document's own answer by contract. -/
import Derived.Test.YteplnejnhgmfiaaDoorShdM
namespace Go.Proofs.YteplnejnhgmfiaaDoor
set_option linter.unusedSimpArgs false
set_option linter.unusedVariables false
set_option linter.unusedSectionVars false
open Go.RowKit

set_option maxRecDepth 100000 in
theorem refGoodS_any (s : Int) (w : World) (c : Bool) (hc : goodS s = c) (hs : I64s s) : Calls Tryd.prog 45 #[.int .i64 s] w fun e w' => e = .returned (.bool c) ∧ w = w' := by
  obtain ⟨s1, s2⟩ := hs
  by_cases q1 : s < 0
  · obtain rfl : false = c := by rw [← hc]; exact (decide_eq_false (by omega)).symm
    clear hc
    go_enter Tryd.func45, Tryd.ntmps45
    go_wp2_with fail
    go_ret
    exact ⟨rfl, rfl⟩
  · by_cases q2 : s < 24
    · obtain rfl : true = c := by rw [← hc]; exact (decide_eq_true ⟨by omega, q2⟩).symm
      clear hc
      go_enter Tryd.func45, Tryd.ntmps45
      go_wp2_with fail
      go_ret
      exact ⟨rfl, rfl⟩
    · obtain rfl : false = c := by rw [← hc]; exact (decide_eq_false (by omega)).symm
      have d2 : decide (s < 24) = false := decide_eq_false q2
      clear hc
      go_enter Tryd.func45, Tryd.ntmps45
      go_wp2_with fail
      go_ret
      exact ⟨rfl, rfl⟩
end Go.Proofs.YteplnejnhgmfiaaDoor
