/- what the proof stands on: Clc -/
import Derived.Test.YtamhnffokoejjaaGreatDoorKnab
import Derived.Test.YtamhnffokoejjaaGreatDoorRows
namespace Go.Proofs.YtamhnffokoejjaaGreatDoor
set_option linter.unusedSimpArgs false
set_option linter.unusedVariables false
set_option linter.unusedSectionVars false
open Go.RowKit
theorem clc_i64 {a b : Int} (h : a = b) : Ending.returned (.int .i64 a) = .returned (.int .i64 b) := by rw [h]
def clcClamp (n low high : Int) : Int := if n < low ∨ high < low then low else if high < n then high else n
theorem clcClamp_any (n low high : Int) (w : World) (c : Int) (hc : clcClamp n low high = c) :
    Calls Tryz.prog 89 #[.int .i64 n, .int .i64 low, .int .i64 high] w fun e w' => e = .returned (.int .i64 c) ∧ w = w' := by
  subst hc
  by_cases h1 : n < low
  · have Q : Hid (low = clcClamp n low high) := Lib.hid (by unfold clcClamp; rw [if_pos (.inl h1)])
    go_enter Tryz.func89, Tryz.ntmps89
    go_wp2
    go_ret
    exact ⟨clc_i64 Q.out, rfl⟩
  · by_cases h2 : high < low
    · have Q : Hid (low = clcClamp n low high) := Lib.hid (by unfold clcClamp; rw [if_pos (.inr h2)])
      go_enter Tryz.func89, Tryz.ntmps89
      go_wp2
      go_ret
      exact ⟨clc_i64 Q.out, rfl⟩
    · by_cases h3 : high < n
      · have Q : Hid (high = clcClamp n low high) := Lib.hid (by unfold clcClamp; rw [if_neg (by omega), if_pos h3])
        go_enter Tryz.func89, Tryz.ntmps89
        go_wp2
        go_ret
        exact ⟨clc_i64 Q.out, rfl⟩
      · have Q : Hid (n = clcClamp n low high) := Lib.hid (by unfold clcClamp; rw [if_neg (by omega), if_neg h3])
        go_enter Tryz.func89, Tryz.ntmps89
        go_wp2
        go_ret
        exact ⟨clc_i64 Q.out, rfl⟩
def ClcSpan (a n all : Int) : Prop := 0 ≤ a ∧ a ≤ all ∧ 0 ≤ n ∧ n ≤ all - a
theorem clcSpan_yes (a n all : Int) (w : World) (h : ClcSpan a n all) (ha : all ≤ 16777216) :
    Calls Tryz.prog 78 #[.int .i64 a, .int .i64 n, .int .i64 all] w fun e w' => e = .returned (.tuple #[.int .i64 a, .int .i64 (a + n), .bool true]) ∧ w = w' := by
  obtain ⟨h1, h2, h3, h4⟩ := h
  go_enter Tryz.func78, Tryz.ntmps78
  go_wp2
  refine bodyPost_ret (v := .tuple #[.int .i64 a, .int .i64 (a + n), .bool true]) (by simp [results, Tryz.results78, go_sem]) rfl ?_
  exact ⟨rfl, rfl⟩
end Go.Proofs.YtamhnffokoejjaaGreatDoor
