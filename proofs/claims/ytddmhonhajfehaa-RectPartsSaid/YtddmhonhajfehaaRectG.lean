/- rect: the law on good and empty rectangles, walked over the contracts. -/
import Derived.Test.YtddmhonhajfehaaRectE
namespace Go.Proofs.Ytddmhonhajfehaa
set_option linter.unusedSimpArgs false
set_option linter.unusedVariables false
set_option linter.unusedSectionVars false
open Go.RowKit

theorem lives02 (w : World) : Calls Try.prog 14 #[] w fun e w' => e = .returned (.bool true) ∧ AnyLater w w' := by
  have hm : (meetR ⟨0, 0, 4, 4⟩ ⟨2, 2, 4, 4⟩).val = .agg #[.int .i64 2, .int .i64 2, .int .i64 2, .int .i64 2]   := rfl
  have hg : goodB 0 0 0 0 = true := by decide
  have HM := Lib.hid hm
  clear hm
  go_enter Try.func14, Try.ntmps14
  go_wp2_with fail
  refine (meet_any _ _ _ _ _ _ _ _ _ (by omega) (by omega) (by omega) (by omega) (by omega) (by omega) (by omega) (by omega)).mono ?_
  rintro e w' ⟨rfl, u1, rfl⟩
  rw [HM.out]
  go_wp2_with fail
  refine (good_any _ _ _ _ _ _ (by assumption) (by omega) (by omega) (by omega) (by omega)).mono ?_
  rintro e w' ⟨rfl, u2, rfl⟩
  go_wp2
  go_ret
  refine ⟨rfl, ?_⟩
  repeat' (first | with_reducible assumption | with_reducible exact AnyLater.refl _ | with_reducible apply AnyLater.setCell | with_reducible apply AnyLater.later | with_reducible apply AnyLater.drewN | with_reducible apply AnyLater.drew | with_reducible apply AnyLater.alloc | ((try simp only [World.size_alloc, World.size_setCell, World.size_drew]); (try dsimp only); omega))

theorem rectHas_walk (x y a b p q : Int) (w : World) (hx : I64 x) (hy : I64 y) (ha : I64 a) (hb : I64 b) (hp : I64 p) (hq : I64 q) :
    Calls Try.prog 3 #[.agg #[.int .i64 x, .int .i64 y, .int .i64 a, .int .i64 b], .int .i64 p, .int .i64 q] w fun e w' => e = .returned (.bool true) ∧ AnyLater w w' := by
  obtain ⟨c1, g1⟩ : ∃ c, goodB x y a b = c := ⟨_, rfl⟩
  obtain ⟨c3, g3⟩ : ∃ c, inB x y a b p q = c := ⟨_, rfl⟩
  obtain ⟨n, g4⟩ : ∃ c, areaZ x y a b = c := ⟨_, rfl⟩
  rcases g2 : anyB x y a b
  · have e1 : (!anyB x y a b) = true := by rw [g2]; rfl
    have g4 : areaZ x y a b = 0 := by unfold areaZ; rw [g2]; rfl
    go_enter Try.func3, Try.ntmps3
    go_wp2_with fail
    refine (any_any _ _ _ _ _ _ g2 (by omega) (by omega) (by omega) (by omega)).mono ?_
    rintro e w' ⟨rfl, u, rfl⟩
    have h_u := later_size u
    (try simp only [World.size_alloc, World.size_setCell, World.size_drew] at h_u)
    have c0_u := later_row u (w.heap.size) (by (try simp only [World.size_alloc, World.size_setCell, World.size_drew]); omega)
    have z0_u := later_free u (w.heap.size) (by (try simp only [World.size_alloc, World.size_setCell, World.size_drew]); omega)
    have l0_u : w.heap.size < (later u).heap.size := by omega
    go_wp2_with fail
    have qc0 := fun (v : Later (later u)) => later_row v w.heap.size (by (try simp only [World.size_alloc, World.size_setCell, World.size_drew]); omega)
    have qz0 := fun (v : Later (later u)) => later_free v w.heap.size (by (try simp only [World.size_alloc, World.size_setCell, World.size_drew]); omega)
    refine wp_region_later (later u) (by kernel_rfl) (by kernel_rfl) (by repeat' (first | with_reducible assumption | with_reducible exact AnyLater.refl _ | with_reducible apply AnyLater.setCell | with_reducible apply AnyLater.later | with_reducible apply AnyLater.drewN | with_reducible apply AnyLater.drew | with_reducible apply AnyLater.alloc | ((try simp only [World.size_alloc, World.size_setCell, World.size_drew]); (try dsimp only); omega))) ?_
    repeat (go_big_quiet_step (first | (go_at_call 8; exact in_later (good_any _ _ _ _ _ _ g1 (by omega) (by omega) (by omega) (by omega))) | (go_at_call 9; exact in_later (refGood_any _ _ _ _ _ _ g1 (by omega) (by omega) (by omega) (by omega))) | (go_at_call 10; exact in_later (empty_any _ _ _ _ _ _ e1 (by omega) (by omega) (by omega) (by omega))) | (go_at_call 7; exact in_later (any_any _ _ _ _ _ _ g2 (by omega) (by omega) (by omega) (by omega))) | (go_at_call 11; exact in_later (has_any _ _ _ _ _ _ _ _ g3 (by omega) (by omega) (by omega) (by omega) (by omega) (by omega))) | (go_at_call 12; exact in_later (in_any _ _ _ _ _ _ _ _ g3 (by omega) (by omega) (by omega) (by omega) (by omega) (by omega))) | (go_at_call 13; exact in_later (area_any _ _ _ _ _ _ g4 (by omega) (by omega) (by omega) (by omega))) | (go_at_call 14; exact in_later (lives02 _))))
    refine wpQuiet_nil ?_
    rintro _ ⟨u, rfl⟩
    have hs := later_size u
    (try simp only [World.size_alloc, World.size_setCell, World.size_drew] at hs)
    clear qc0; clear qz0; have c0 := later_row u w.heap.size (by (try simp only [World.size_alloc, World.size_setCell, World.size_drew]); omega)
    have z0 := later_free u w.heap.size (by (try simp only [World.size_alloc, World.size_setCell, World.size_drew]); omega)
    go_wp2
    go_ret
    refine ⟨rfl, ?_⟩
    repeat' (first | with_reducible assumption | with_reducible exact AnyLater.refl _ | with_reducible apply AnyLater.setCell | with_reducible apply AnyLater.later | with_reducible apply AnyLater.drewN | with_reducible apply AnyLater.drew | with_reducible apply AnyLater.alloc | ((try simp only [World.size_alloc, World.size_setCell, World.size_drew]); (try dsimp only); omega))
  · have e1 : (!anyB x y a b) = false := by rw [g2]; rfl
    have hg2 : goodB x y a b = true := by unfold anyB at g2; simp at g2; exact g2.1.1
    obtain ⟨i1, i2, i3, i4, i5, i6, i7, i8⟩ := goodB_in hg2
    have m1 : 0 ≤ a * b := Int.mul_nonneg i5 i6
    have m2 : a * b ≤ 2147483648 * 2147483648 := Int.mul_le_mul (by omega) (by omega) i6 (by omega)
    have g4 : areaZ x y a b = a * b := by unfold areaZ; rw [g2]; rfl
    clear hg2
    go_enter Try.func3, Try.ntmps3
    go_wp2_with fail
    refine (any_any _ _ _ _ _ _ g2 (by omega) (by omega) (by omega) (by omega)).mono ?_
    rintro e w' ⟨rfl, u, rfl⟩
    have h_u := later_size u
    (try simp only [World.size_alloc, World.size_setCell, World.size_drew] at h_u)
    have c0_u := later_row u (w.heap.size) (by (try simp only [World.size_alloc, World.size_setCell, World.size_drew]); omega)
    have z0_u := later_free u (w.heap.size) (by (try simp only [World.size_alloc, World.size_setCell, World.size_drew]); omega)
    have l0_u : w.heap.size < (later u).heap.size := by omega
    go_wp2_with fail
    have qc0 := fun (v : Later (later u)) => later_row v w.heap.size (by (try simp only [World.size_alloc, World.size_setCell, World.size_drew]); omega)
    have qz0 := fun (v : Later (later u)) => later_free v w.heap.size (by (try simp only [World.size_alloc, World.size_setCell, World.size_drew]); omega)
    refine wp_region_later (later u) (by kernel_rfl) (by kernel_rfl) (by repeat' (first | with_reducible assumption | with_reducible exact AnyLater.refl _ | with_reducible apply AnyLater.setCell | with_reducible apply AnyLater.later | with_reducible apply AnyLater.drewN | with_reducible apply AnyLater.drew | with_reducible apply AnyLater.alloc | ((try simp only [World.size_alloc, World.size_setCell, World.size_drew]); (try dsimp only); omega))) ?_
    repeat (go_big_quiet_step (first | (go_at_call 8; exact in_later (good_any _ _ _ _ _ _ g1 (by omega) (by omega) (by omega) (by omega))) | (go_at_call 9; exact in_later (refGood_any _ _ _ _ _ _ g1 (by omega) (by omega) (by omega) (by omega))) | (go_at_call 10; exact in_later (empty_any _ _ _ _ _ _ e1 (by omega) (by omega) (by omega) (by omega))) | (go_at_call 7; exact in_later (any_any _ _ _ _ _ _ g2 (by omega) (by omega) (by omega) (by omega))) | (go_at_call 11; exact in_later (has_any _ _ _ _ _ _ _ _ g3 (by omega) (by omega) (by omega) (by omega) (by omega) (by omega))) | (go_at_call 12; exact in_later (in_any _ _ _ _ _ _ _ _ g3 (by omega) (by omega) (by omega) (by omega) (by omega) (by omega))) | (go_at_call 13; exact in_later (area_any _ _ _ _ _ _ g4 (by omega) (by omega) (by omega) (by omega))) | (go_at_call 14; exact in_later (lives02 _))))
    refine wpQuiet_nil ?_
    rintro _ ⟨u, rfl⟩
    have hs := later_size u
    (try simp only [World.size_alloc, World.size_setCell, World.size_drew] at hs)
    clear qc0; clear qz0; have c0 := later_row u w.heap.size (by (try simp only [World.size_alloc, World.size_setCell, World.size_drew]); omega)
    have z0 := later_free u w.heap.size (by (try simp only [World.size_alloc, World.size_setCell, World.size_drew]); omega)
    go_wp2
    go_ret
    refine ⟨rfl, ?_⟩
    repeat' (first | with_reducible assumption | with_reducible exact AnyLater.refl _ | with_reducible apply AnyLater.setCell | with_reducible apply AnyLater.later | with_reducible apply AnyLater.drewN | with_reducible apply AnyLater.drew | with_reducible apply AnyLater.alloc | ((try simp only [World.size_alloc, World.size_setCell, World.size_drew]); (try dsimp only); omega))
end Go.Proofs.Ytddmhonhajfehaa
