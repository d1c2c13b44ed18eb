/- rect: a trial -/
import Derived.Test.YtddmhonhajfehaaRectB
namespace Go.Proofs.Ytddmhonhajfehaa
set_option linter.unusedSimpArgs false
set_option linter.unusedVariables false
set_option linter.unusedSectionVars false
open Go.RowKit

theorem between_any (l t r b : Int) (w : World) (h1 : I64 (r - l)) (h2 : I64 (b - t)) (x y p q : Int) (hx : x = l) (hy : y = t) (hp : p = r - l) (hq : q = b - t) :
    Calls Try.prog 21 #[.int .i64 l, .int .i64 t, .int .i64 r, .int .i64 b] w fun e w' => e = .returned (.agg #[.int .i64 x, .int .i64 y, .int .i64 p, .int .i64 q]) ∧ AnyLater w w' := by
  subst hx hy hp hq
  go_enter Try.func21, Try.ntmps21
  go_wp2
  refine bodyPost_ret (v := .agg #[.int .i64 x, .int .i64 y, .int .i64 (r - x), .int .i64 (b - y)]) (by simp [results, Try.results21, go_sem]) rfl ⟨rfl, ?_⟩
  repeat' (first | with_reducible assumption | with_reducible exact AnyLater.refl _ | with_reducible apply AnyLater.setCell | with_reducible apply AnyLater.later | with_reducible apply AnyLater.drewN | with_reducible apply AnyLater.drew | with_reducible apply AnyLater.alloc | ((try simp only [World.size_alloc, World.size_setCell, World.size_drew]); (try dsimp only); omega))

theorem empty_any (x y a b : Int) (w : World) (c : Bool) (hc : (!anyB x y a b) = c) (hx : I64 x) (hy : I64 y) (ha : I64 a) (hb : I64 b) :
    Calls Try.prog 10 #[.agg #[.int .i64 x, .int .i64 y, .int .i64 a, .int .i64 b]] w fun e w' => e = .returned (.bool c) ∧ AnyLater w w' := by
  have HL := Lib.hid ((AnyLater.refl w).alloc (.cells #[.int .i64 x, .int .i64 y, .int .i64 a, .int .i64 b] 23))
  have H := Lib.hid hc
  clear hc
  rcases hg : goodB x y a b
  case' true => have hg2 : 0 ≤ a ∧ 0 ≤ b := by unfold goodB sideB at hg; simp at hg; omega
  all_goals
    go_enter Try.func10, Try.ntmps10
    go_wp2_with (go_at_call 8; refine (good_any _ _ _ _ _ _ (by assumption) (by assumption) (by assumption) (by assumption) (by assumption)).mono ?_; rintro e w' ⟨rfl, u, rfl⟩; have hs := later_size u; (try simp only [World.size_alloc, World.size_setCell, World.size_drew] at hs); have c0 := later_row u w.heap.size (by (try simp only [World.size_alloc, World.size_setCell, World.size_drew]); omega); have z0 := later_free u w.heap.size (by (try simp only [World.size_alloc, World.size_setCell, World.size_drew]); omega))
    all_goals
      go_ret
      exact ⟨ret_bool (by rw [← H.out]; unfold anyB; first | (simp [hg]; done) | (simp [hg]; omega) | (rw [Bool.eq_iff_iff]; simp [hg]; omega)), HL.out.later u⟩

def inB (x y a b p q : Int) : Bool := goodB x y a b && decide (x ≤ p ∧ p < x + a ∧ y ≤ q ∧ q < y + b)
theorem goodB_in {x y a b : Int} (h : goodB x y a b = true) : -1073741824 ≤ x ∧ x ≤ 1073741824 ∧ -1073741824 ≤ y ∧ y ≤ 1073741824 ∧ 0 ≤ a ∧ 0 ≤ b ∧ x + a ≤ 1073741824 ∧ y + b ≤ 1073741824 := by
  unfold goodB sideB at h; simp at h; omega
theorem has_any (x y a b p q : Int) (w : World) (c : Bool) (hc : inB x y a b p q = c) (hx : I64 x) (hy : I64 y) (ha : I64 a) (hb : I64 b) (hp : I64 p) (hq : I64 q) :
    Calls Try.prog 11 #[.agg #[.int .i64 x, .int .i64 y, .int .i64 a, .int .i64 b], .int .i64 p, .int .i64 q] w fun e w' => e = .returned (.bool c) ∧ AnyLater w w' := by
  have HL := Lib.hid ((AnyLater.refl w).alloc (.cells #[.int .i64 x, .int .i64 y, .int .i64 a, .int .i64 b] 23))
  have H := Lib.hid hc
  clear hc
  rcases hg : goodB x y a b
  case' true => obtain ⟨g1, g2, g3, g4, g5, g6, g7, g8⟩ := goodB_in hg
  all_goals
    go_enter Try.func11, Try.ntmps11
    go_wp2_with (go_at_call 8; refine (good_any _ _ _ _ _ _ (by assumption) (by assumption) (by assumption) (by assumption) (by assumption)).mono ?_; rintro e w' ⟨rfl, u, rfl⟩; have hs := later_size u; (try simp only [World.size_alloc, World.size_setCell, World.size_drew] at hs); have c0 := later_row u w.heap.size (by (try simp only [World.size_alloc, World.size_setCell, World.size_drew]); omega); have z0 := later_free u w.heap.size (by (try simp only [World.size_alloc, World.size_setCell, World.size_drew]); omega))
    all_goals
      go_ret
      exact ⟨ret_bool (by rw [← H.out]; unfold inB; first | (simp [hg]; done) | (simp [hg]; omega) | (rw [Bool.eq_iff_iff]; simp [hg]; omega)), HL.out.later u⟩
theorem in_any (x y a b p q : Int) (w : World) (c : Bool) (hc : inB x y a b p q = c) (hx : I64 x) (hy : I64 y) (ha : I64 a) (hb : I64 b) (hp : I64 p) (hq : I64 q) :
    Calls Try.prog 12 #[.agg #[.int .i64 x, .int .i64 y, .int .i64 a, .int .i64 b], .int .i64 p, .int .i64 q] w fun e w' => e = .returned (.bool c) ∧ AnyLater w w' := by
  have HL := Lib.hid ((AnyLater.refl w).alloc (.cells #[.int .i64 x, .int .i64 y, .int .i64 a, .int .i64 b] 23))
  have H := Lib.hid hc
  clear hc
  rcases hg : goodB x y a b
  case' true => obtain ⟨g1, g2, g3, g4, g5, g6, g7, g8⟩ := goodB_in hg
  all_goals
    go_enter Try.func12, Try.ntmps12
    go_wp2_with (go_at_call 9; refine (refGood_any _ _ _ _ _ _ (by assumption) (by assumption) (by assumption) (by assumption) (by assumption)).mono ?_; rintro e w' ⟨rfl, u, rfl⟩; have hs := later_size u; (try simp only [World.size_alloc, World.size_setCell, World.size_drew] at hs); have c0 := later_row u w.heap.size (by (try simp only [World.size_alloc, World.size_setCell, World.size_drew]); omega); have z0 := later_free u w.heap.size (by (try simp only [World.size_alloc, World.size_setCell, World.size_drew]); omega))
    all_goals
      go_ret
      exact ⟨ret_bool (by rw [← H.out]; unfold inB; first | (simp [hg]; done) | (simp [hg]; omega) | (rw [Bool.eq_iff_iff]; simp [hg]; omega)), HL.out.later u⟩
def areaZ (x y a b : Int) : Int := if anyB x y a b = true then a * b else 0
theorem area_any (x y a b : Int) (w : World) (n : Int) (hn : areaZ x y a b = n) (hx : I64 x) (hy : I64 y) (ha : I64 a) (hb : I64 b) :
    Calls Try.prog 13 #[.agg #[.int .i64 x, .int .i64 y, .int .i64 a, .int .i64 b]] w fun e w' => e = .returned (.int .i64 n) ∧ AnyLater w w' := by
  have HL := Lib.hid ((AnyLater.refl w).alloc (.cells #[.int .i64 x, .int .i64 y, .int .i64 a, .int .i64 b] 23))
  subst hn
  rcases hg : anyB x y a b
  · have he : (!anyB x y a b) = true := by rw [hg]; rfl
    go_enter Try.func13, Try.ntmps13
    go_wp2_with (go_at_call 10; refine (empty_any _ _ _ _ _ _ (by assumption) (by assumption) (by assumption) (by assumption) (by assumption)).mono ?_; rintro e w' ⟨rfl, u, rfl⟩; have hs := later_size u; (try simp only [World.size_alloc, World.size_setCell, World.size_drew] at hs); have c0 := later_row u w.heap.size (by (try simp only [World.size_alloc, World.size_setCell, World.size_drew]); omega); have z0 := later_free u w.heap.size (by (try simp only [World.size_alloc, World.size_setCell, World.size_drew]); omega))
    go_ret
    exact ⟨ret_int (by unfold areaZ; rw [hg]; rfl), HL.out.later u⟩
  · have he : (!anyB x y a b) = false := by rw [hg]; rfl
    have hg2 : goodB x y a b = true := by unfold anyB at hg; simp at hg; exact hg.1.1
    obtain ⟨g1, g2, g3, g4, g5, g6, g7, g8⟩ := goodB_in hg2
    have m1 : 0 ≤ a * b := Int.mul_nonneg g5 g6
    have m2 : a * b ≤ 2147483648 * 2147483648 := Int.mul_le_mul (by omega) (by omega) g6 (by omega)
    go_enter Try.func13, Try.ntmps13
    go_wp2_with (go_at_call 10; refine (empty_any _ _ _ _ _ _ (by assumption) (by assumption) (by assumption) (by assumption) (by assumption)).mono ?_; rintro e w' ⟨rfl, u, rfl⟩; have hs := later_size u; (try simp only [World.size_alloc, World.size_setCell, World.size_drew] at hs); have c0 := later_row u w.heap.size (by (try simp only [World.size_alloc, World.size_setCell, World.size_drew]); omega); have z0 := later_free u w.heap.size (by (try simp only [World.size_alloc, World.size_setCell, World.size_drew]); omega))
    go_ret
    exact ⟨ret_int (by unfold areaZ; rw [hg]; rfl), HL.out.later u⟩
end Go.Proofs.Ytddmhonhajfehaa
