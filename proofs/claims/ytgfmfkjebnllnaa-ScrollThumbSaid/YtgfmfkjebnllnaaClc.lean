/- calc: Clamp and Span by contract, for every layer that stands on them (names of their own). No condition beyond that each number is one of 64 bits. -/
import Derived.Test.YtgfmfkjebnllnaaRegion
import Derived.Test.YtgfmfkjebnllnaaRows
namespace Go.Proofs.Ytgfmfkjebnllnaa
set_option linter.unusedSimpArgs false
set_option linter.unusedVariables false
set_option linter.unusedSectionVars false
open Go.RowKit

theorem clc_i64 {a b : Int} (h : a = b) : Ending.returned (.int .i64 a) = .returned (.int .i64 b) := by rw [h]
def clcClamp (n low high : Int) : Int := if n < low ∨ high < low then low else if high < n then high else n
theorem clcClamp_any (n low high : Int) (w : World) (c : Int) (hc : clcClamp n low high = c) :
    Calls Try.prog 21 #[.int .i64 n, .int .i64 low, .int .i64 high] w fun e w' => e = .returned (.int .i64 c) ∧ w = w' := by
  subst hc
  by_cases h1 : n < low
  · have Q : Hid (low = clcClamp n low high) := Lib.hid (by unfold clcClamp; rw [if_pos (.inl h1)])
    go_enter Try.func21, Try.ntmps21
    go_wp2
    go_ret
    exact ⟨clc_i64 Q.out, rfl⟩
  · by_cases h2 : high < low
    · have Q : Hid (low = clcClamp n low high) := Lib.hid (by unfold clcClamp; rw [if_pos (.inr h2)])
      go_enter Try.func21, Try.ntmps21
      go_wp2
      go_ret
      exact ⟨clc_i64 Q.out, rfl⟩
    · by_cases h3 : high < n
      · have Q : Hid (high = clcClamp n low high) := Lib.hid (by unfold clcClamp; rw [if_neg (by omega), if_pos h3])
        go_enter Try.func21, Try.ntmps21
        go_wp2
        go_ret
        exact ⟨clc_i64 Q.out, rfl⟩
      · have Q : Hid (n = clcClamp n low high) := Lib.hid (by unfold clcClamp; rw [if_neg (by omega), if_neg h3])
        go_enter Try.func21, Try.ntmps21
        go_wp2
        go_ret
        exact ⟨clc_i64 Q.out, rfl⟩
def ClcSpan (a n all : Int) : Prop := 0 ≤ a ∧ a ≤ all ∧ 0 ≤ n ∧ n ≤ all - a
end Go.Proofs.Ytgfmfkjebnllnaa
