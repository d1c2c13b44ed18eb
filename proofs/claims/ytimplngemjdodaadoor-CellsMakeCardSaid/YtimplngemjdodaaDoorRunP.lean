/- runs, the program: shade.Good, calc.Clamp, calc.Span, kept, each by contract. No condition beyond that each number is one of 64 bits. -/
import Derived.Test.YtimplngemjdodaaDoorRunF
namespace Go.Proofs.YtimplngemjdodaaDoor
set_option linter.unusedSimpArgs false
set_option linter.unusedVariables false
set_option linter.unusedSectionVars false
open Go.RowKit

theorem pgood_any (s : Int) (w : World) (c : Bool) (hc : goodS s = c) : Calls Tryd.prog 44 #[.int .i64 s] w fun e w' => e = .returned (.bool c) ∧ w = w' := by
  subst hc
  by_cases h1 : 0 ≤ s
  · by_cases h2 : s ≤ 23
    · have Q : Hid (goodS s = true) := Lib.hid (by unfold goodS; simp; omega)
      go_enter Tryd.func44, Tryd.ntmps44
      go_wp2
      go_ret
      exact ⟨ret_bool (by rw [Q.out]), rfl⟩
    · have Q : Hid (goodS s = false) := Lib.hid (by unfold goodS; simp; omega)
      have h3 : decide (s ≤ 23) = false := decide_eq_false h2
      go_enter Tryd.func44, Tryd.ntmps44
      go_wp2
      go_ret
      exact ⟨ret_bool (by rw [Q.out]), rfl⟩
  · have Q : Hid (goodS s = false) := Lib.hid (by unfold goodS; simp; omega)
    have h3 : decide (0 ≤ s) = false := decide_eq_false h1
    go_enter Tryd.func44, Tryd.ntmps44
    go_wp2
    go_ret
    exact ⟨ret_bool (by rw [Q.out]), rfl⟩

/-! ### calc -/
theorem ret_i64 {a b : Int} (h : a = b) : Ending.returned (.int .i64 a) = .returned (.int .i64 b) := by rw [h]
def clampI (n low high : Int) : Int := if n < low ∨ high < low then low else if high < n then high else n
theorem pclamp_any (n low high : Int) (w : World) (c : Int) (hc : clampI n low high = c) :
    Calls Tryd.prog 47 #[.int .i64 n, .int .i64 low, .int .i64 high] w fun e w' => e = .returned (.int .i64 c) ∧ w = w' := by
  subst hc
  by_cases h1 : n < low
  · have Q : Hid (low = clampI n low high) := Lib.hid (by unfold clampI; rw [if_pos (.inl h1)])
    go_enter Tryd.func47, Tryd.ntmps47
    go_wp2
    go_ret
    exact ⟨ret_i64 Q.out, rfl⟩
  · by_cases h2 : high < low
    · have Q : Hid (low = clampI n low high) := Lib.hid (by unfold clampI; rw [if_pos (.inr h2)])
      go_enter Tryd.func47, Tryd.ntmps47
      go_wp2
      go_ret
      exact ⟨ret_i64 Q.out, rfl⟩
    · by_cases h3 : high < n
      · have Q : Hid (high = clampI n low high) := Lib.hid (by unfold clampI; rw [if_neg (by omega), if_pos h3])
        go_enter Tryd.func47, Tryd.ntmps47
        go_wp2
        go_ret
        exact ⟨ret_i64 Q.out, rfl⟩
      · have Q : Hid (n = clampI n low high) := Lib.hid (by unfold clampI; rw [if_neg (by omega), if_neg h3])
        go_enter Tryd.func47, Tryd.ntmps47
        go_wp2
        go_ret
        exact ⟨ret_i64 Q.out, rfl⟩
def Span3 (a n all : Int) : Prop := 0 ≤ a ∧ a ≤ all ∧ 0 ≤ n ∧ n ≤ all - a
theorem pspan_yes (a n all : Int) (w : World) (h : Span3 a n all) (ha : all ≤ 16777216) :
    Calls Tryd.prog 32 #[.int .i64 a, .int .i64 n, .int .i64 all] w fun e w' => e = .returned (.tuple #[.int .i64 a, .int .i64 (a + n), .bool true]) ∧ w = w' := by
  obtain ⟨h1, h2, h3, h4⟩ := h
  go_enter Tryd.func32, Tryd.ntmps32
  go_wp2
  refine bodyPost_ret (v := .tuple #[.int .i64 a, .int .i64 (a + n), .bool true]) (by simp [results, Tryd.results32, go_sem]) rfl ?_
  exact ⟨rfl, rfl⟩
theorem pspan_no (a n all : Int) (w : World) (h : ¬ Span3 a n all) (ha : all ≤ 16777216) (h0 : 0 ≤ all) :
    Calls Tryd.prog 32 #[.int .i64 a, .int .i64 n, .int .i64 all] w fun e w' => e = .returned (.tuple #[.int .i64 0, .int .i64 0, .bool false]) ∧ w = w' := by
  by_cases h1 : a < 0
  · clear h
    go_enter Tryd.func32, Tryd.ntmps32
    go_wp2
    refine bodyPost_ret (v := .tuple #[.int .i64 0, .int .i64 0, .bool false]) (by simp [results, Tryd.results32, go_sem]) rfl ?_
    exact ⟨rfl, rfl⟩
  · by_cases h2 : all < a
    · clear h
      go_enter Tryd.func32, Tryd.ntmps32
      go_wp2
      refine bodyPost_ret (v := .tuple #[.int .i64 0, .int .i64 0, .bool false]) (by simp [results, Tryd.results32, go_sem]) rfl ?_
      exact ⟨rfl, rfl⟩
    · by_cases h3 : n < 0
      · clear h
        go_enter Tryd.func32, Tryd.ntmps32
        go_wp2
        refine bodyPost_ret (v := .tuple #[.int .i64 0, .int .i64 0, .bool false]) (by simp [results, Tryd.results32, go_sem]) rfl ?_
        exact ⟨rfl, rfl⟩
      · have h4 : all - a < n := by unfold Span3 at h; omega
        clear h
        go_enter Tryd.func32, Tryd.ntmps32
        go_wp2
        refine bodyPost_ret (v := .tuple #[.int .i64 0, .int .i64 0, .bool false]) (by simp [results, Tryd.results32, go_sem]) rfl ?_
        exact ⟨rfl, rfl⟩

/-! ### kept -/
set_option maxRecDepth 100000 in
set_option maxHeartbeats 1600000 in
theorem kept_any (n s : Int) (w : World) (c : Bool) (hc : fairR (n, s) = c) (hn : I64s n) (hs : I64s s) : Calls Tryd.prog 48 #[.agg #[.int .i64 n, .int .i64 s]] w fun e w' => e = .returned (.bool c) ∧ AnyLater w w' := by
  have hc := fairR_split n s c hc
  have HG := Lib.hid (fun w => pgood_any s w _ rfl)
  have HC := Lib.hid hc
  generalize goodS s = g at *
  obtain ⟨n1, n2⟩ := hn
  obtain ⟨s1, s2⟩ := hs
  clear hc
  by_cases q1 : 1 ≤ n
  · by_cases q2 : n ≤ 16777216
    · have HC2 : Hid (g = c) := Lib.hid (by rw [← HC.out]; simp [q1, q2])
      go_enter Tryd.func48, Tryd.ntmps48
      go_wp2_with (go_at_call 44; refine (HG.out _).mono ?_; rintro e w' ⟨rfl, rfl⟩)
      go_ret
      exact ⟨ret_bool HC2.out, by repeat' (first | with_reducible assumption | with_reducible exact AnyLater.refl _ | with_reducible apply AnyLater.setCell | with_reducible apply AnyLater.later | with_reducible apply AnyLater.drewN | with_reducible apply AnyLater.drew | with_reducible apply AnyLater.alloc | ((try simp only [World.size_alloc, World.size_setCell, World.size_drew]); (try dsimp only); omega))⟩
    · have HC2 : Hid (false = c) := Lib.hid (by rw [← HC.out]; simp [q2])
      have d2 : decide (n ≤ 16777216) = false := decide_eq_false q2
      go_enter Tryd.func48, Tryd.ntmps48
      go_wp2_with fail
      go_ret
      exact ⟨ret_bool HC2.out, by repeat' (first | with_reducible assumption | with_reducible exact AnyLater.refl _ | with_reducible apply AnyLater.setCell | with_reducible apply AnyLater.later | with_reducible apply AnyLater.drewN | with_reducible apply AnyLater.drew | with_reducible apply AnyLater.alloc | ((try simp only [World.size_alloc, World.size_setCell, World.size_drew]); (try dsimp only); omega))⟩
  · have HC2 : Hid (false = c) := Lib.hid (by rw [← HC.out]; simp [q1])
    have d1 : decide (1 ≤ n) = false := decide_eq_false q1
    go_enter Tryd.func48, Tryd.ntmps48
    go_wp2_with fail
    go_ret
    exact ⟨ret_bool HC2.out, by repeat' (first | with_reducible assumption | with_reducible exact AnyLater.refl _ | with_reducible apply AnyLater.setCell | with_reducible apply AnyLater.later | with_reducible apply AnyLater.drewN | with_reducible apply AnyLater.drew | with_reducible apply AnyLater.alloc | ((try simp only [World.size_alloc, World.size_setCell, World.size_drew]); (try dsimp only); omega))⟩
end Go.Proofs.YtimplngemjdodaaDoor
