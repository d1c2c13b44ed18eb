/- calc: Clamp and Span by contract, for every layer that stands on them (names of their own). No condition beyond that each number is one of 64 bits. -/
import Derived.Test.YtjoadlfkdkeomaaRegion
import Derived.Test.YtjoadlfkdkeomaaRows
namespace Go.Proofs.Ytjoadlfkdkeomaa
set_option linter.unusedSimpArgs false
set_option linter.unusedVariables false
set_option linter.unusedSectionVars false
open Go.RowKit

theorem clc_i64 {a b : Int} (h : a = b) : Ending.returned (.int .i64 a) = .returned (.int .i64 b) := by rw [h]
def clcClamp (n low high : Int) : Int := if n < low ∨ high < low then low else if high < n then high else n
theorem clcClamp_any (n low high : Int) (w : World) (c : Int) (hc : clcClamp n low high = c) :
    Calls Try.prog 59 #[.int .i64 n, .int .i64 low, .int .i64 high] w fun e w' => e = .returned (.int .i64 c) ∧ w = w' := by
  subst hc
  by_cases h1 : n < low
  · have Q : Hid (low = clcClamp n low high) := Lib.hid (by unfold clcClamp; rw [if_pos (.inl h1)])
    go_enter Try.func59, Try.ntmps59
    go_wp2
    go_ret
    exact ⟨clc_i64 Q.out, rfl⟩
  · by_cases h2 : high < low
    · have Q : Hid (low = clcClamp n low high) := Lib.hid (by unfold clcClamp; rw [if_pos (.inr h2)])
      go_enter Try.func59, Try.ntmps59
      go_wp2
      go_ret
      exact ⟨clc_i64 Q.out, rfl⟩
    · by_cases h3 : high < n
      · have Q : Hid (high = clcClamp n low high) := Lib.hid (by unfold clcClamp; rw [if_neg (by omega), if_pos h3])
        go_enter Try.func59, Try.ntmps59
        go_wp2
        go_ret
        exact ⟨clc_i64 Q.out, rfl⟩
      · have Q : Hid (n = clcClamp n low high) := Lib.hid (by unfold clcClamp; rw [if_neg (by omega), if_neg h3])
        go_enter Try.func59, Try.ntmps59
        go_wp2
        go_ret
        exact ⟨clc_i64 Q.out, rfl⟩
def ClcSpan (a n all : Int) : Prop := 0 ≤ a ∧ a ≤ all ∧ 0 ≤ n ∧ n ≤ all - a
theorem clcSpan_yes (a n all : Int) (w : World) (h : ClcSpan a n all) (ha : all ≤ 16777216) :
    Calls Try.prog 40 #[.int .i64 a, .int .i64 n, .int .i64 all] w fun e w' => e = .returned (.tuple #[.int .i64 a, .int .i64 (a + n), .bool true]) ∧ w = w' := by
  obtain ⟨h1, h2, h3, h4⟩ := h
  go_enter Try.func40, Try.ntmps40
  go_wp2
  refine bodyPost_ret (v := .tuple #[.int .i64 a, .int .i64 (a + n), .bool true]) (by simp [results, Try.results40, go_sem]) rfl ?_
  exact ⟨rfl, rfl⟩
theorem clcSpan_no (a n all : Int) (w : World) (h : ¬ ClcSpan a n all) (ha : all ≤ 16777216) (h0 : 0 ≤ all) :
    Calls Try.prog 40 #[.int .i64 a, .int .i64 n, .int .i64 all] w fun e w' => e = .returned (.tuple #[.int .i64 0, .int .i64 0, .bool false]) ∧ w = w' := by
  by_cases h1 : a < 0
  · clear h
    go_enter Try.func40, Try.ntmps40
    go_wp2
    refine bodyPost_ret (v := .tuple #[.int .i64 0, .int .i64 0, .bool false]) (by simp [results, Try.results40, go_sem]) rfl ?_
    exact ⟨rfl, rfl⟩
  · by_cases h2 : all < a
    · clear h
      go_enter Try.func40, Try.ntmps40
      go_wp2
      refine bodyPost_ret (v := .tuple #[.int .i64 0, .int .i64 0, .bool false]) (by simp [results, Try.results40, go_sem]) rfl ?_
      exact ⟨rfl, rfl⟩
    · by_cases h3 : n < 0
      · clear h
        go_enter Try.func40, Try.ntmps40
        go_wp2
        refine bodyPost_ret (v := .tuple #[.int .i64 0, .int .i64 0, .bool false]) (by simp [results, Try.results40, go_sem]) rfl ?_
        exact ⟨rfl, rfl⟩
      · have h4 : all - a < n := by unfold ClcSpan at h; omega
        clear h
        go_enter Try.func40, Try.ntmps40
        go_wp2
        refine bodyPost_ret (v := .tuple #[.int .i64 0, .int .i64 0, .bool false]) (by simp [results, Try.results40, go_sem]) rfl ?_
        exact ⟨rfl, rfl⟩

end Go.Proofs.Ytjoadlfkdkeomaa
