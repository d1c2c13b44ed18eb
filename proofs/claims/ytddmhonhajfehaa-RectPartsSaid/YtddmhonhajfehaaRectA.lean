/- rect: which rectangles are good, or empty, and which pixels they have: contracts. -/
import Derived.Test.YtddmhonhajfehaaRows
import Derived.Test.YtddmhonhajfehaaLater
namespace Go.Proofs.Ytddmhonhajfehaa
set_option linter.unusedSimpArgs false
set_option linter.unusedVariables false
set_option linter.unusedSectionVars false
open Go.RowKit

def rc (x y a b : Int) : Value := .agg #[.int .i64 x, .int .i64 y, .int .i64 a, .int .i64 b]
def sideB (x n : Int) : Bool := decide (-1073741824 ≤ x ∧ 0 ≤ n ∧ x ≤ 1073741824 - n)
def goodB (x y a b : Int) : Bool := sideB x a && sideB y b
abbrev I64 (n : Int) : Prop := -9223372036854775808 ≤ n ∧ n ≤ 9223372036854775807

theorem goodSide_any (x n : Int) (w : World) (c : Bool) (hc : sideB x n = c) (hx : I64 x) (hn : I64 n) :
    Calls Try.prog 20 #[.int .i64 x, .int .i64 n] w fun e w' => e = .returned (.bool c) ∧ w = w' := by
  obtain ⟨x1, x2⟩ := hx
  obtain ⟨n1, n2⟩ := hn
  unfold sideB at hc
  by_cases h1 : -1073741824 ≤ x
  · by_cases h2 : 0 ≤ n
    · by_cases h3 : x ≤ 1073741824 - n
      · have H := Lib.hid hc
        clear hc
        go_enter Try.func20, Try.ntmps20
        go_wp2
        go_ret
        exact ⟨ret_bool (by rw [← H.out]; simp; omega), rfl⟩
      · have H := Lib.hid hc
        clear hc
        go_enter Try.func20, Try.ntmps20
        go_wp2
        go_ret
        exact ⟨ret_bool (by rw [← H.out]; simp; omega), rfl⟩
    · have H := Lib.hid hc
      clear hc
      go_enter Try.func20, Try.ntmps20
      go_wp2
      go_ret
      exact ⟨ret_bool (by rw [← H.out]; simp; omega), rfl⟩
  · have H := Lib.hid hc
    clear hc
    go_enter Try.func20, Try.ntmps20
    go_wp2
    go_ret
    exact ⟨ret_bool (by rw [← H.out]; simp; omega), rfl⟩

theorem good_any (x y a b : Int) (w : World) (c : Bool) (hc : goodB x y a b = c) (hx : I64 x) (hy : I64 y) (ha : I64 a) (hb : I64 b) :
    Calls Try.prog 8 #[.agg #[.int .i64 x, .int .i64 y, .int .i64 a, .int .i64 b]] w fun e w' => e = .returned (.bool c) ∧ AnyLater w w' := by
  have H := Lib.hid hc
  have HL := Lib.hid ((AnyLater.refl w).alloc (.cells #[.int .i64 x, .int .i64 y, .int .i64 a, .int .i64 b] 23))
  clear hc
  by_cases h1 : sideB x a = true
  · rcases h2 : sideB y b
    all_goals
      go_enter Try.func8, Try.ntmps8
      go_wp2_with (go_at_call 20; refine (goodSide_any _ _ _ _ (by assumption) (by assumption) (by assumption)).mono ?_; rintro e w' ⟨rfl, rfl⟩)
      go_outline
      go_ret
      exact ⟨ret_bool (by rw [← H.out]; simp [goodB, h1, h2]), HL.out⟩
  · have h1 : sideB x a = false := by simpa using h1
    go_enter Try.func8, Try.ntmps8
    go_wp2_with (go_at_call 20; refine (goodSide_any _ _ _ _ (by assumption) (by assumption) (by assumption)).mono ?_; rintro e w' ⟨rfl, rfl⟩)
    go_ret
    exact ⟨ret_bool (by rw [← H.out]; simp [goodB, h1]), HL.out⟩
end Go.Proofs.Ytddmhonhajfehaa
