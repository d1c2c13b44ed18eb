/- mark, the program: upTo, Good, Len, Back, moves, Right, Left, Span, each by contract. -/
import Derived.Test.YtkobnijjahpifaaMrkA
namespace Go.Proofs.Ytkobnijjahpifaa
set_option linter.unusedSimpArgs false
set_option linter.unusedVariables false
set_option linter.unusedSectionVars false
open Go.RowKit

def upT (n h : Int) : Bool := decide (0 ≤ n) && decide (n ≤ h)
theorem upT_iff {n h : Int} : upT n h = true ↔ 0 ≤ n ∧ n ≤ h := by unfold upT; simp
theorem upT_not {n h : Int} : upT n h = false ↔ ¬ (0 ≤ n ∧ n ≤ h) := by rw [← upT_iff]; simp
theorem pupTo_any (n h : Int) (w : World) (c : Bool) (hc : upT n h = c) : Calls Try.prog 46 #[.int .i64 n, .int .i64 h] w fun e w' => e = .returned (.bool c) ∧ w = w' := by
  subst hc
  by_cases h1 : 0 ≤ n
  · by_cases h2 : n ≤ h
    · have Q : Hid (true = upT n h) := Lib.hid (upT_iff.2 ⟨h1, h2⟩).symm
      go_enter Try.func46, Try.ntmps46
      go_wp2
      go_ret
      exact ⟨ret_bool Q.out, rfl⟩
    · have Q : Hid (false = upT n h) := Lib.hid (upT_not.2 (by omega)).symm
      have h3 : decide (n ≤ h) = false := decide_eq_false h2
      go_enter Try.func46, Try.ntmps46
      go_wp2
      go_ret
      exact ⟨ret_bool Q.out, rfl⟩
  · have Q : Hid (false = upT n h) := Lib.hid (upT_not.2 (by omega)).symm
    have h3 : decide (0 ≤ n) = false := decide_eq_false h1
    go_enter Try.func46, Try.ntmps46
    go_wp2
    go_ret
    exact ⟨ret_bool Q.out, rfl⟩

theorem plc_up (n : Int) : upT n 16777216 = plc n := rfl
theorem mmoves_any (p a o i : Int) (w : World) (c : Bool) (hc : plcs p a o i = c) : Calls Try.prog 42 #[.int .i64 p, .agg #[.int .i64 a, .int .i64 o, .int .i64 i]] w fun e w' => e = .returned (.bool c) ∧ AnyLater w w' := by
  subst hc
  rcases h1 : upT p 16777216
  · have Q : Hid (false = plcs p a o i) := Lib.hid (by unfold plcs; rw [← plc_up p, h1]; rfl)
    go_enter Try.func42, Try.ntmps42
    go_wp2_with ((go_at_call 46; refine (pupTo_any _ _ _ _ (by assumption)).mono ?_; rintro e w' ⟨rfl, rfl⟩))
    go_ret
    exact ⟨ret_bool Q.out, by repeat' (first | with_reducible assumption | with_reducible exact AnyLater.refl _ | with_reducible apply AnyLater.setCell | with_reducible apply AnyLater.later | with_reducible apply AnyLater.drewN | with_reducible apply AnyLater.drew | with_reducible apply AnyLater.alloc | ((try simp only [World.size_alloc, World.size_setCell, World.size_drew]); (try dsimp only); omega))⟩
  · rcases h2 : upT a 16777216
    · have Q : Hid (false = plcs p a o i) := Lib.hid (by unfold plcs; rw [← plc_up p, ← plc_up a, h1, h2]; rfl)
      go_enter Try.func42, Try.ntmps42
      go_wp2_with ((go_at_call 46; refine (pupTo_any _ _ _ _ (by assumption)).mono ?_; rintro e w' ⟨rfl, rfl⟩))
      go_ret
      exact ⟨ret_bool Q.out, by repeat' (first | with_reducible assumption | with_reducible exact AnyLater.refl _ | with_reducible apply AnyLater.setCell | with_reducible apply AnyLater.later | with_reducible apply AnyLater.drewN | with_reducible apply AnyLater.drew | with_reducible apply AnyLater.alloc | ((try simp only [World.size_alloc, World.size_setCell, World.size_drew]); (try dsimp only); omega))⟩
    · rcases h3 : upT o 16777216
      · have Q : Hid (false = plcs p a o i) := Lib.hid (by unfold plcs; rw [← plc_up p, ← plc_up a, ← plc_up o, h1, h2, h3]; rfl)
        go_enter Try.func42, Try.ntmps42
        go_wp2_with ((go_at_call 46; refine (pupTo_any _ _ _ _ (by assumption)).mono ?_; rintro e w' ⟨rfl, rfl⟩))
        go_ret
        exact ⟨ret_bool Q.out, by repeat' (first | with_reducible assumption | with_reducible exact AnyLater.refl _ | with_reducible apply AnyLater.setCell | with_reducible apply AnyLater.later | with_reducible apply AnyLater.drewN | with_reducible apply AnyLater.drew | with_reducible apply AnyLater.alloc | ((try simp only [World.size_alloc, World.size_setCell, World.size_drew]); (try dsimp only); omega))⟩
      · obtain ⟨c, h4⟩ : ∃ c, upT i 16777216 = c := ⟨_, rfl⟩
        have Q : Hid (c = plcs p a o i) := Lib.hid (by unfold plcs; rw [← plc_up p, ← plc_up a, ← plc_up o, ← plc_up i, h1, h2, h3, h4]; simp)
        go_enter Try.func42, Try.ntmps42
        go_wp2_with ((go_at_call 46; refine (pupTo_any _ _ _ _ (by assumption)).mono ?_; rintro e w' ⟨rfl, rfl⟩))
        go_ret
        exact ⟨ret_bool Q.out, by repeat' (first | with_reducible assumption | with_reducible exact AnyLater.refl _ | with_reducible apply AnyLater.setCell | with_reducible apply AnyLater.later | with_reducible apply AnyLater.drewN | with_reducible apply AnyLater.drew | with_reducible apply AnyLater.alloc | ((try simp only [World.size_alloc, World.size_setCell, World.size_drew]); (try dsimp only); omega))⟩

/-- the cells of an edit that a call boxed -/
theorem box_three {w w1 : World} {x y z : Value} {t : TypeId} (h : AnyLater (w.alloc (.cells #[x, y, z] t)) w1) : w1.cell? ⟨w.heap.size, 0, none⟩ = some x ∧ w1.cell? ⟨w.heap.size, 1, none⟩ = some y ∧ w1.cell? ⟨w.heap.size, 2, none⟩ = some z := by
  have h3 : (w.alloc (.cells #[x, y, z] t)).heap[w.heap.size]? = some (.cells #[x, y, z] t) := heap_new rfl
  exact ⟨(h.below.cell (own_lt h3)).trans (by rw [own_row h3]; rfl), (h.below.cell (own_lt h3)).trans (by rw [own_row h3]; rfl), (h.below.cell (own_lt h3)).trans (by rw [own_row h3]; rfl)⟩
theorem mright_any (p a o i : Int) (w : World) (c : Int) (hc : rightZ p a o i = c) : Calls Try.prog 35 #[.int .i64 p, .agg #[.int .i64 a, .int .i64 o, .int .i64 i]] w fun e w' => e = .returned (.int .i64 c) ∧ AnyLater w w' := by
  subst hc
  rcases T : plcs p a o i
  · have HM := Lib.hid (fun w => mmoves_any p a o i w false T)
    have Q : Hid (p = rightZ p a o i) := Lib.hid (by unfold rightZ; rw [T]; rfl)
    clear T
    go_enter Try.func35, Try.ntmps35
    go_wp2_with fail
    refine (HM.out _).mono ?_
    rintro e w1 ⟨rfl, b1⟩
    have a_w1 := Lib.hid (AnyLater.trans ((AnyLater.refl w).alloc _) b1)
    clear b1
    go_wp2_with fail
    go_ret
    exact ⟨mret_i64 Q.out, a_w1.out⟩
  · have HM := Lib.hid (fun w => mmoves_any p a o i w true T)
    obtain ⟨b1, b2, b3, b4⟩ := plcs_in T
    by_cases h5 : a + o ≤ p
    · have Q : Hid (p - o + i = rightZ p a o i) := Lib.hid (by unfold rightZ; rw [if_pos T, if_pos h5])
      clear T
      go_enter Try.func35, Try.ntmps35
      go_wp2_with fail
      refine (HM.out _).mono ?_
      rintro e w1 ⟨rfl, b1⟩
      obtain ⟨c0, c1, c2⟩ := box_three b1
      have a_w1 := Lib.hid (AnyLater.trans ((AnyLater.refl w).alloc _) b1)
      clear b1
      go_wp2_with fail
      go_ret
      exact ⟨mret_i64 Q.out, a_w1.out⟩
    · by_cases h6 : a < p
      · have Q : Hid (a + i = rightZ p a o i) := Lib.hid (by unfold rightZ; rw [if_pos T, if_neg h5, if_pos h6])
        clear T
        go_enter Try.func35, Try.ntmps35
        go_wp2_with fail
        refine (HM.out _).mono ?_
        rintro e w1 ⟨rfl, b1⟩
        obtain ⟨c0, c1, c2⟩ := box_three b1
        have a_w1 := Lib.hid (AnyLater.trans ((AnyLater.refl w).alloc _) b1)
        clear b1
        go_wp2_with fail
        go_ret
        exact ⟨mret_i64 Q.out, a_w1.out⟩
      · have Q : Hid (p = rightZ p a o i) := Lib.hid (by unfold rightZ; rw [if_pos T, if_neg h5, if_neg h6])
        clear T
        go_enter Try.func35, Try.ntmps35
        go_wp2_with fail
        refine (HM.out _).mono ?_
        rintro e w1 ⟨rfl, b1⟩
        obtain ⟨c0, c1, c2⟩ := box_three b1
        have a_w1 := Lib.hid (AnyLater.trans ((AnyLater.refl w).alloc _) b1)
        clear b1
        go_wp2_with fail
        go_ret
        exact ⟨mret_i64 Q.out, a_w1.out⟩
end Go.Proofs.Ytkobnijjahpifaa
