/- mark: MarkKeeps, walked. -/
import Derived.Test.YtibeoohjdinceaaMrkB
import Derived.Test.YtibeoohjdinceaaMrkC
namespace Go.Proofs.Ytibeoohjdinceaa
set_option linter.unusedSimpArgs false
set_option linter.unusedVariables false
set_option linter.unusedSectionVars false
open Go.RowKit

set_option maxRecDepth 100000 in
set_option maxHeartbeats 1600000 in
theorem markKeeps_any (W : World) (a0_0 a0_1 a1_0 a1_1 a1_2 a2 : Int) : Calls Try.prog 6 #[.agg #[.int .i64 a0_0, .int .i64 a0_1], .agg #[.int .i64 a1_0, .int .i64 a1_1, .int .i64 a1_2], .int .i64 a2] W fun e W' => e = .returned (.bool true) ∧ AnyLater W W' := by
  generalize W = w at *
  generalize a0_0 = f
  generalize a0_1 = t
  generalize a1_0 = a
  generalize a1_1 = o
  generalize a1_2 = i
  generalize a2 = n
  have nb := neqSpan
  have gb := guard_span
  rcases hg : goodE a o i n
  · have HG := Lib.hid hg
    clear hg
    go_enter Try.func6, Try.ntmps6
    go_wp2_with fail
    first | refine settle_wp (fun wS => AnyLater w wS ∧ wS.heap[w.heap.size]? = some (.cells #[.int .i64 f, .int .i64 t] 33) ∧ wS.heap[w.heap.size + 1]? = some (.cells #[.int .i64 a, .int .i64 o, .int .i64 i] 23)) ?_ ?_ | refine settle_calls (fun wS => AnyLater w wS ∧ wS.heap[w.heap.size]? = some (.cells #[.int .i64 f, .int .i64 t] 33) ∧ wS.heap[w.heap.size + 1]? = some (.cells #[.int .i64 a, .int .i64 o, .int .i64 i] 23)) ?_ ?_
    · refine ⟨?_, ?_, ?_⟩
      · repeat' (first | with_reducible assumption | with_reducible exact AnyLater.refl _ | with_reducible apply AnyLater.setCell | with_reducible apply AnyLater.later | with_reducible apply AnyLater.drewN | with_reducible apply AnyLater.drew | with_reducible apply AnyLater.alloc | ((try simp only [World.size_alloc, World.size_setCell, World.size_drew]); (try dsimp only); omega))
      · ((repeat (first | with_reducible assumption | ((with_reducible apply heap_new); (try simp only [World.size_alloc, World.size_setCell, World.size_drew, World.heap_drewN]); done) | ((with_reducible apply heap_new); (try simp only [World.size_alloc, World.size_setCell, World.size_drew, World.heap_drewN]); omega) | (with_reducible refine heap_old (by (try simp only [World.size_alloc, World.size_setCell, World.size_drew, World.heap_drewN]); omega) ?_) | (with_reducible refine heap_drew ?_) | (with_reducible refine heap_far (by omega) ?_) | (with_reducible apply heap_at))); all_goals rfl)
      · ((repeat (first | with_reducible assumption | ((with_reducible apply heap_new); (try simp only [World.size_alloc, World.size_setCell, World.size_drew, World.heap_drewN]); done) | ((with_reducible apply heap_new); (try simp only [World.size_alloc, World.size_setCell, World.size_drew, World.heap_drewN]); omega) | (with_reducible refine heap_old (by (try simp only [World.size_alloc, World.size_setCell, World.size_drew, World.heap_drewN]); omega) ?_) | (with_reducible refine heap_drew ?_) | (with_reducible refine heap_far (by omega) ?_) | (with_reducible apply heap_at))); all_goals rfl)
    rintro w1 ⟨b_w1, s0_w1, s1_w1⟩
    have a_w1 := b_w1
    have r0_w1 := own_row s0_w1
    have f0_w1 := own_free s0_w1
    have l0_w1 := own_lt s0_w1
    have r1_w1 := own_row s1_w1
    have f1_w1 := own_free s1_w1
    have l1_w1 := own_lt s1_w1
    have z_w1 := b_w1.below.size
    refine (xgood_any a o i n _ false HG.out).mono ?_
    rintro e w2 ⟨rfl, b_w2⟩
    have z_w2 := b_w2.below.size
    have a_w2 := a_w1.trans b_w2
    have s0_w2 := any_own b_w2 s0_w1
    have s1_w2 := any_own b_w2 s1_w1
    have r0_w2 := own_row s0_w2
    have f0_w2 := own_free s0_w2
    have l0_w2 := own_lt s0_w2
    have r1_w2 := own_row s1_w2
    have f1_w2 := own_free s1_w2
    have l1_w2 := own_lt s1_w2
    (try clear r0_w1); (try clear f0_w1)
    (try clear r1_w1); (try clear f1_w1)
    go_wp2_with fail
    refine (mlives_any _).mono ?_
    rintro e w3 ⟨rfl, b_w3⟩
    have z_w3 := b_w3.below.size
    have a_w3 := a_w2.trans b_w3
    have s0_w3 := any_own b_w3 s0_w2
    have s1_w3 := any_own b_w3 s1_w2
    have r0_w3 := own_row s0_w3
    have f0_w3 := own_free s0_w3
    have l0_w3 := own_lt s0_w3
    have r1_w3 := own_row s1_w3
    have f1_w3 := own_free s1_w3
    have l1_w3 := own_lt s1_w3
    (try clear r0_w2); (try clear f0_w2)
    (try clear r1_w2); (try clear f1_w2)
    go_wp2_with fail
    go_ret
    exact ⟨rfl, a_w3⟩
  · have hb := goodE_in hg
    have HG := Lib.hid hg
    clear hg
    by_cases h1 : f < 0
    ·
      go_enter Try.func6, Try.ntmps6
      go_wp2_with fail
      first | refine settle_wp (fun wS => AnyLater w wS ∧ wS.heap[w.heap.size]? = some (.cells #[.int .i64 f, .int .i64 t] 33) ∧ wS.heap[w.heap.size + 1]? = some (.cells #[.int .i64 a, .int .i64 o, .int .i64 i] 23)) ?_ ?_ | refine settle_calls (fun wS => AnyLater w wS ∧ wS.heap[w.heap.size]? = some (.cells #[.int .i64 f, .int .i64 t] 33) ∧ wS.heap[w.heap.size + 1]? = some (.cells #[.int .i64 a, .int .i64 o, .int .i64 i] 23)) ?_ ?_
      · refine ⟨?_, ?_, ?_⟩
        · repeat' (first | with_reducible assumption | with_reducible exact AnyLater.refl _ | with_reducible apply AnyLater.setCell | with_reducible apply AnyLater.later | with_reducible apply AnyLater.drewN | with_reducible apply AnyLater.drew | with_reducible apply AnyLater.alloc | ((try simp only [World.size_alloc, World.size_setCell, World.size_drew]); (try dsimp only); omega))
        · ((repeat (first | with_reducible assumption | ((with_reducible apply heap_new); (try simp only [World.size_alloc, World.size_setCell, World.size_drew, World.heap_drewN]); done) | ((with_reducible apply heap_new); (try simp only [World.size_alloc, World.size_setCell, World.size_drew, World.heap_drewN]); omega) | (with_reducible refine heap_old (by (try simp only [World.size_alloc, World.size_setCell, World.size_drew, World.heap_drewN]); omega) ?_) | (with_reducible refine heap_drew ?_) | (with_reducible refine heap_far (by omega) ?_) | (with_reducible apply heap_at))); all_goals rfl)
        · ((repeat (first | with_reducible assumption | ((with_reducible apply heap_new); (try simp only [World.size_alloc, World.size_setCell, World.size_drew, World.heap_drewN]); done) | ((with_reducible apply heap_new); (try simp only [World.size_alloc, World.size_setCell, World.size_drew, World.heap_drewN]); omega) | (with_reducible refine heap_old (by (try simp only [World.size_alloc, World.size_setCell, World.size_drew, World.heap_drewN]); omega) ?_) | (with_reducible refine heap_drew ?_) | (with_reducible refine heap_far (by omega) ?_) | (with_reducible apply heap_at))); all_goals rfl)
      rintro w1 ⟨b_w1, s0_w1, s1_w1⟩
      have a_w1 := b_w1
      have r0_w1 := own_row s0_w1
      have f0_w1 := own_free s0_w1
      have l0_w1 := own_lt s0_w1
      have r1_w1 := own_row s1_w1
      have f1_w1 := own_free s1_w1
      have l1_w1 := own_lt s1_w1
      have z_w1 := b_w1.below.size
      refine (xgood_any a o i n _ true HG.out).mono ?_
      rintro e w2 ⟨rfl, b_w2⟩
      have z_w2 := b_w2.below.size
      have a_w2 := a_w1.trans b_w2
      have s0_w2 := any_own b_w2 s0_w1
      have s1_w2 := any_own b_w2 s1_w1
      have r0_w2 := own_row s0_w2
      have f0_w2 := own_free s0_w2
      have l0_w2 := own_lt s0_w2
      have r1_w2 := own_row s1_w2
      have f1_w2 := own_free s1_w2
      have l1_w2 := own_lt s1_w2
      (try clear r0_w1); (try clear f0_w1)
      (try clear r1_w1); (try clear f1_w1)
      go_wp2_with fail
      refine (mlives_any _).mono ?_
      rintro e w3 ⟨rfl, b_w3⟩
      have z_w3 := b_w3.below.size
      have a_w3 := a_w2.trans b_w3
      have s0_w3 := any_own b_w3 s0_w2
      have s1_w3 := any_own b_w3 s1_w2
      have r0_w3 := own_row s0_w3
      have f0_w3 := own_free s0_w3
      have l0_w3 := own_lt s0_w3
      have r1_w3 := own_row s1_w3
      have f1_w3 := own_free s1_w3
      have l1_w3 := own_lt s1_w3
      (try clear r0_w2); (try clear f0_w2)
      (try clear r1_w2); (try clear f1_w2)
      go_wp2_with fail
      go_ret
      exact ⟨rfl, a_w3⟩
    · have e1 : decide (f < 0) = false := decide_eq_false h1
      by_cases h2 : t ≤ f
      ·
        go_enter Try.func6, Try.ntmps6
        go_wp2_with fail
        first | refine settle_wp (fun wS => AnyLater w wS ∧ wS.heap[w.heap.size]? = some (.cells #[.int .i64 f, .int .i64 t] 33) ∧ wS.heap[w.heap.size + 1]? = some (.cells #[.int .i64 a, .int .i64 o, .int .i64 i] 23)) ?_ ?_ | refine settle_calls (fun wS => AnyLater w wS ∧ wS.heap[w.heap.size]? = some (.cells #[.int .i64 f, .int .i64 t] 33) ∧ wS.heap[w.heap.size + 1]? = some (.cells #[.int .i64 a, .int .i64 o, .int .i64 i] 23)) ?_ ?_
        · refine ⟨?_, ?_, ?_⟩
          · repeat' (first | with_reducible assumption | with_reducible exact AnyLater.refl _ | with_reducible apply AnyLater.setCell | with_reducible apply AnyLater.later | with_reducible apply AnyLater.drewN | with_reducible apply AnyLater.drew | with_reducible apply AnyLater.alloc | ((try simp only [World.size_alloc, World.size_setCell, World.size_drew]); (try dsimp only); omega))
          · ((repeat (first | with_reducible assumption | ((with_reducible apply heap_new); (try simp only [World.size_alloc, World.size_setCell, World.size_drew, World.heap_drewN]); done) | ((with_reducible apply heap_new); (try simp only [World.size_alloc, World.size_setCell, World.size_drew, World.heap_drewN]); omega) | (with_reducible refine heap_old (by (try simp only [World.size_alloc, World.size_setCell, World.size_drew, World.heap_drewN]); omega) ?_) | (with_reducible refine heap_drew ?_) | (with_reducible refine heap_far (by omega) ?_) | (with_reducible apply heap_at))); all_goals rfl)
          · ((repeat (first | with_reducible assumption | ((with_reducible apply heap_new); (try simp only [World.size_alloc, World.size_setCell, World.size_drew, World.heap_drewN]); done) | ((with_reducible apply heap_new); (try simp only [World.size_alloc, World.size_setCell, World.size_drew, World.heap_drewN]); omega) | (with_reducible refine heap_old (by (try simp only [World.size_alloc, World.size_setCell, World.size_drew, World.heap_drewN]); omega) ?_) | (with_reducible refine heap_drew ?_) | (with_reducible refine heap_far (by omega) ?_) | (with_reducible apply heap_at))); all_goals rfl)
        rintro w1 ⟨b_w1, s0_w1, s1_w1⟩
        have a_w1 := b_w1
        have r0_w1 := own_row s0_w1
        have f0_w1 := own_free s0_w1
        have l0_w1 := own_lt s0_w1
        have r1_w1 := own_row s1_w1
        have f1_w1 := own_free s1_w1
        have l1_w1 := own_lt s1_w1
        have z_w1 := b_w1.below.size
        refine (xgood_any a o i n _ true HG.out).mono ?_
        rintro e w2 ⟨rfl, b_w2⟩
        have z_w2 := b_w2.below.size
        have a_w2 := a_w1.trans b_w2
        have s0_w2 := any_own b_w2 s0_w1
        have s1_w2 := any_own b_w2 s1_w1
        have r0_w2 := own_row s0_w2
        have f0_w2 := own_free s0_w2
        have l0_w2 := own_lt s0_w2
        have r1_w2 := own_row s1_w2
        have f1_w2 := own_free s1_w2
        have l1_w2 := own_lt s1_w2
        (try clear r0_w1); (try clear f0_w1)
        (try clear r1_w1); (try clear f1_w1)
        go_wp2_with fail
        refine (mlives_any _).mono ?_
        rintro e w3 ⟨rfl, b_w3⟩
        have z_w3 := b_w3.below.size
        have a_w3 := a_w2.trans b_w3
        have s0_w3 := any_own b_w3 s0_w2
        have s1_w3 := any_own b_w3 s1_w2
        have r0_w3 := own_row s0_w3
        have f0_w3 := own_free s0_w3
        have l0_w3 := own_lt s0_w3
        have r1_w3 := own_row s1_w3
        have f1_w3 := own_free s1_w3
        have l1_w3 := own_lt s1_w3
        (try clear r0_w2); (try clear f0_w2)
        (try clear r1_w2); (try clear f1_w2)
        go_wp2_with fail
        go_ret
        exact ⟨rfl, a_w3⟩
      · have e2 : decide (t ≤ f) = false := decide_eq_false h2
        by_cases h3 : n < t
        ·
          go_enter Try.func6, Try.ntmps6
          go_wp2_with fail
          first | refine settle_wp (fun wS => AnyLater w wS ∧ wS.heap[w.heap.size]? = some (.cells #[.int .i64 f, .int .i64 t] 33) ∧ wS.heap[w.heap.size + 1]? = some (.cells #[.int .i64 a, .int .i64 o, .int .i64 i] 23)) ?_ ?_ | refine settle_calls (fun wS => AnyLater w wS ∧ wS.heap[w.heap.size]? = some (.cells #[.int .i64 f, .int .i64 t] 33) ∧ wS.heap[w.heap.size + 1]? = some (.cells #[.int .i64 a, .int .i64 o, .int .i64 i] 23)) ?_ ?_
          · refine ⟨?_, ?_, ?_⟩
            · repeat' (first | with_reducible assumption | with_reducible exact AnyLater.refl _ | with_reducible apply AnyLater.setCell | with_reducible apply AnyLater.later | with_reducible apply AnyLater.drewN | with_reducible apply AnyLater.drew | with_reducible apply AnyLater.alloc | ((try simp only [World.size_alloc, World.size_setCell, World.size_drew]); (try dsimp only); omega))
            · ((repeat (first | with_reducible assumption | ((with_reducible apply heap_new); (try simp only [World.size_alloc, World.size_setCell, World.size_drew, World.heap_drewN]); done) | ((with_reducible apply heap_new); (try simp only [World.size_alloc, World.size_setCell, World.size_drew, World.heap_drewN]); omega) | (with_reducible refine heap_old (by (try simp only [World.size_alloc, World.size_setCell, World.size_drew, World.heap_drewN]); omega) ?_) | (with_reducible refine heap_drew ?_) | (with_reducible refine heap_far (by omega) ?_) | (with_reducible apply heap_at))); all_goals rfl)
            · ((repeat (first | with_reducible assumption | ((with_reducible apply heap_new); (try simp only [World.size_alloc, World.size_setCell, World.size_drew, World.heap_drewN]); done) | ((with_reducible apply heap_new); (try simp only [World.size_alloc, World.size_setCell, World.size_drew, World.heap_drewN]); omega) | (with_reducible refine heap_old (by (try simp only [World.size_alloc, World.size_setCell, World.size_drew, World.heap_drewN]); omega) ?_) | (with_reducible refine heap_drew ?_) | (with_reducible refine heap_far (by omega) ?_) | (with_reducible apply heap_at))); all_goals rfl)
          rintro w1 ⟨b_w1, s0_w1, s1_w1⟩
          have a_w1 := b_w1
          have r0_w1 := own_row s0_w1
          have f0_w1 := own_free s0_w1
          have l0_w1 := own_lt s0_w1
          have r1_w1 := own_row s1_w1
          have f1_w1 := own_free s1_w1
          have l1_w1 := own_lt s1_w1
          have z_w1 := b_w1.below.size
          refine (xgood_any a o i n _ true HG.out).mono ?_
          rintro e w2 ⟨rfl, b_w2⟩
          have z_w2 := b_w2.below.size
          have a_w2 := a_w1.trans b_w2
          have s0_w2 := any_own b_w2 s0_w1
          have s1_w2 := any_own b_w2 s1_w1
          have r0_w2 := own_row s0_w2
          have f0_w2 := own_free s0_w2
          have l0_w2 := own_lt s0_w2
          have r1_w2 := own_row s1_w2
          have f1_w2 := own_free s1_w2
          have l1_w2 := own_lt s1_w2
          (try clear r0_w1); (try clear f0_w1)
          (try clear r1_w1); (try clear f1_w1)
          go_wp2_with fail
          refine (mlives_any _).mono ?_
          rintro e w3 ⟨rfl, b_w3⟩
          have z_w3 := b_w3.below.size
          have a_w3 := a_w2.trans b_w3
          have s0_w3 := any_own b_w3 s0_w2
          have s1_w3 := any_own b_w3 s1_w2
          have r0_w3 := own_row s0_w3
          have f0_w3 := own_free s0_w3
          have l0_w3 := own_lt s0_w3
          have r1_w3 := own_row s1_w3
          have f1_w3 := own_free s1_w3
          have l1_w3 := own_lt s1_w3
          (try clear r0_w2); (try clear f0_w2)
          (try clear r1_w2); (try clear f1_w2)
          go_wp2_with fail
          go_ret
          exact ⟨rfl, a_w3⟩
        · have e3 : decide (n < t) = false := decide_eq_false h3
          obtain ⟨r1, hr1⟩ : ∃ x, rightZ f a o i = x := ⟨_, rfl⟩
          obtain ⟨r2, hr2⟩ : ∃ x, rightZ t a o i = x := ⟨_, rfl⟩
          obtain ⟨l1, hl1⟩ : ∃ x, leftZ f a o i = x := ⟨_, rfl⟩
          obtain ⟨l2, hl2⟩ : ∃ x, leftZ t a o i = x := ⟨_, rfl⟩
          have pf : plcs f a o i = true := by unfold plcs; simp only [Bool.and_eq_true, plc_iff]; omega
          have pt : plcs t a o i = true := by unfold plcs; simp only [Bool.and_eq_true, plc_iff]; omega
          have v1 := hr1
          have v2 := hr2
          have v3 := hl1
          have v4 := hl2
          unfold rightZ at v1 v2
          unfold leftZ at v3 v4
          rw [if_pos pf] at v1 v3
          rw [if_pos pt] at v2 v4
          have m1 : decide (r1 ≤ r2) = true := decide_eq_true (by rw [← v1, ← v2]; split <;> split <;> (try split) <;> (try split) <;> omega)
          have m2 : decide (l1 ≤ l2) = true := decide_eq_true (by rw [← v3, ← v4]; split <;> split <;> (try split) <;> (try split) <;> omega)
          have m3 : decide (l1 ≤ r1) = true := decide_eq_true (by rw [← v1, ← v3]; split <;> split <;> (try split) <;> (try split) <;> omega)
          have bs : -100000000 ≤ r1 ∧ l2 ≤ 100000000 ∧ r1 ≤ 100000000 ∧ -100000000 ≤ l2 := by rw [← v1, ← v4]; split <;> split <;> (try split) <;> (try split) <;> omega
          clear pf pt
          by_cases h4 : t ≤ a
          · have x1 : r1 = f := by rw [← v1, if_neg (by omega), if_neg (by omega)]
            have x2 : l2 = t := by rw [← v4, if_pos h4]
            have HS : Hid (∀ w, Calls Try.prog 19 #[.agg #[.int .i64 f, .int .i64 t], .agg #[.int .i64 a, .int .i64 o, .int .i64 i]] w fun e w' => e = .returned (.tuple #[.agg #[.int .i64 f, .int .i64 t], .bool true]) ∧ AnyLater w w') := Lib.hid (fun w => mspan_yes f t a o i f t w (hr1.trans x1) (hl2.trans x2) (by omega))
            have e5 : decide (a + o ≤ f) = false := decide_eq_false (by omega)
            clear v1 v2 v3 v4 x1 x2
            go_enter Try.func6, Try.ntmps6
            go_wp2_with fail
            first | refine settle_wp (fun wS => AnyLater w wS ∧ wS.heap[w.heap.size]? = some (.cells #[.int .i64 f, .int .i64 t] 33) ∧ wS.heap[w.heap.size + 1]? = some (.cells #[.int .i64 a, .int .i64 o, .int .i64 i] 23)) ?_ ?_ | refine settle_calls (fun wS => AnyLater w wS ∧ wS.heap[w.heap.size]? = some (.cells #[.int .i64 f, .int .i64 t] 33) ∧ wS.heap[w.heap.size + 1]? = some (.cells #[.int .i64 a, .int .i64 o, .int .i64 i] 23)) ?_ ?_
            · refine ⟨?_, ?_, ?_⟩
              · repeat' (first | with_reducible assumption | with_reducible exact AnyLater.refl _ | with_reducible apply AnyLater.setCell | with_reducible apply AnyLater.later | with_reducible apply AnyLater.drewN | with_reducible apply AnyLater.drew | with_reducible apply AnyLater.alloc | ((try simp only [World.size_alloc, World.size_setCell, World.size_drew]); (try dsimp only); omega))
              · ((repeat (first | with_reducible assumption | ((with_reducible apply heap_new); (try simp only [World.size_alloc, World.size_setCell, World.size_drew, World.heap_drewN]); done) | ((with_reducible apply heap_new); (try simp only [World.size_alloc, World.size_setCell, World.size_drew, World.heap_drewN]); omega) | (with_reducible refine heap_old (by (try simp only [World.size_alloc, World.size_setCell, World.size_drew, World.heap_drewN]); omega) ?_) | (with_reducible refine heap_drew ?_) | (with_reducible refine heap_far (by omega) ?_) | (with_reducible apply heap_at))); all_goals rfl)
              · ((repeat (first | with_reducible assumption | ((with_reducible apply heap_new); (try simp only [World.size_alloc, World.size_setCell, World.size_drew, World.heap_drewN]); done) | ((with_reducible apply heap_new); (try simp only [World.size_alloc, World.size_setCell, World.size_drew, World.heap_drewN]); omega) | (with_reducible refine heap_old (by (try simp only [World.size_alloc, World.size_setCell, World.size_drew, World.heap_drewN]); omega) ?_) | (with_reducible refine heap_drew ?_) | (with_reducible refine heap_far (by omega) ?_) | (with_reducible apply heap_at))); all_goals rfl)
            rintro w1 ⟨b_w1, s0_w1, s1_w1⟩
            have a_w1 := b_w1
            have r0_w1 := own_row s0_w1
            have f0_w1 := own_free s0_w1
            have l0_w1 := own_lt s0_w1
            have r1_w1 := own_row s1_w1
            have f1_w1 := own_free s1_w1
            have l1_w1 := own_lt s1_w1
            have z_w1 := b_w1.below.size
            refine (xgood_any a o i n _ true HG.out).mono ?_
            rintro e w2 ⟨rfl, b_w2⟩
            have z_w2 := b_w2.below.size
            have a_w2 := a_w1.trans b_w2
            have s0_w2 := any_own b_w2 s0_w1
            have s1_w2 := any_own b_w2 s1_w1
            have r0_w2 := own_row s0_w2
            have f0_w2 := own_free s0_w2
            have l0_w2 := own_lt s0_w2
            have r1_w2 := own_row s1_w2
            have f1_w2 := own_free s1_w2
            have l1_w2 := own_lt s1_w2
            (try clear r0_w1); (try clear f0_w1)
            (try clear r1_w1); (try clear f1_w1)
            go_wp2_with fail
            refine (HS.out _).mono ?_
            rintro e w3 ⟨rfl, b_w3⟩
            have z_w3 := b_w3.below.size
            have a_w3 := a_w2.trans b_w3
            have s0_w3 := any_own b_w3 s0_w2
            have s1_w3 := any_own b_w3 s1_w2
            have r0_w3 := own_row s0_w3
            have f0_w3 := own_free s0_w3
            have l0_w3 := own_lt s0_w3
            have r1_w3 := own_row s1_w3
            have f1_w3 := own_free s1_w3
            have l1_w3 := own_lt s1_w3
            (try clear r0_w2); (try clear f0_w2)
            (try clear r1_w2); (try clear f1_w2)
            go_wp2_with fail
            first | refine settle_wp (fun wS => AnyLater w3 wS ∧ wS.heap[w3.heap.size]? = some (.cells #[.int .i64 f, .int .i64 t] 33)) ?_ ?_ | refine settle_calls (fun wS => AnyLater w3 wS ∧ wS.heap[w3.heap.size]? = some (.cells #[.int .i64 f, .int .i64 t] 33)) ?_ ?_
            · refine ⟨?_, ?_⟩
              · repeat' (first | with_reducible assumption | with_reducible exact AnyLater.refl _ | with_reducible apply AnyLater.setCell | with_reducible apply AnyLater.later | with_reducible apply AnyLater.drewN | with_reducible apply AnyLater.drew | with_reducible apply AnyLater.alloc | ((try simp only [World.size_alloc, World.size_setCell, World.size_drew]); (try dsimp only); omega))
              · ((repeat (first | with_reducible assumption | ((with_reducible apply heap_new); (try simp only [World.size_alloc, World.size_setCell, World.size_drew, World.heap_drewN]); done) | ((with_reducible apply heap_new); (try simp only [World.size_alloc, World.size_setCell, World.size_drew, World.heap_drewN]); omega) | (with_reducible refine heap_old (by (try simp only [World.size_alloc, World.size_setCell, World.size_drew, World.heap_drewN]); omega) ?_) | (with_reducible refine heap_drew ?_) | (with_reducible refine heap_far (by omega) ?_) | (with_reducible apply heap_at))); all_goals rfl)
            rintro w4 ⟨b_w4, s2_w4⟩
            have a_w4 := a_w3.trans b_w4
            have s0_w4 := any_own b_w4 s0_w3
            have s1_w4 := any_own b_w4 s1_w3
            have r0_w4 := own_row s0_w4
            have f0_w4 := own_free s0_w4
            have l0_w4 := own_lt s0_w4
            have r1_w4 := own_row s1_w4
            have f1_w4 := own_free s1_w4
            have l1_w4 := own_lt s1_w4
            (try clear r0_w3); (try clear f0_w3)
            (try clear r1_w3); (try clear f1_w3)
            have r2_w4 := own_row s2_w4
            have f2_w4 := own_free s2_w4
            have l2_w4 := own_lt s2_w4
            have z_w4 := b_w4.below.size
            apply wp_region_mem (34) [] (by kernel_rfl) (by kernel_rfl) (by simp)
            case hstab =>
              intro e he v x y hxy hv
              simp only [List.mem_cons, List.not_mem_nil, or_false] at he
            case hlex =>
              intro U
              have q0 := fun (v : Later (later U)) => own_row (any_own ⟨v, rfl⟩ (any_own ⟨U, rfl⟩ s0_w4))
              have q1 := fun (v : Later (later U)) => own_row (any_own ⟨v, rfl⟩ (any_own ⟨U, rfl⟩ s1_w4))
              have q2 := fun (v : Later (later U)) => own_row (any_own ⟨v, rfl⟩ (any_own ⟨U, rfl⟩ s2_w4))
              simp only [absFrom, absOp, idx, List.map_cons, List.map_nil, List.contains_cons, List.contains_nil, Nat.reduceBEq, Bool.or_false, Bool.false_or, Bool.true_or, Bool.or_true, Bool.false_eq_true, Nat.reduceLeDiff, Nat.reduceAdd, if_false, if_true]
              repeat (go_big_quiet_step (first | (go_at_call 7; exact in_later (mright_any _ _ _ _ _ _ (by assumption))) | (go_at_call 9; exact in_later (mleft_any _ _ _ _ _ _ (by assumption))) | (go_at_call 11; exact in_later (mlives_any _))))
              exact wpQuiet_nil rfl
            case hown =>
              intro e he o ho
              simp only [List.mem_cons, List.not_mem_nil, or_false] at he
            case htail =>
              intro g u hst hne
              have b_w5 : AnyLater w4 (later u) := ⟨u, rfl⟩
              generalize later u = w5 at *
              clear u
              clear hst hne
              simp only [fillAll, Act.put, List.setIfInBounds_toArray, List.set_cons_zero, List.set_cons_succ, List.drop_succ_cons, List.drop_zero]
              have z_w5 := b_w5.below.size
              have a_w5 := a_w4.trans b_w5
              have s0_w5 := any_own b_w5 s0_w4
              have s1_w5 := any_own b_w5 s1_w4
              have s2_w5 := any_own b_w5 s2_w4
              have r0_w5 := own_row s0_w5
              have f0_w5 := own_free s0_w5
              have l0_w5 := own_lt s0_w5
              have r1_w5 := own_row s1_w5
              have f1_w5 := own_free s1_w5
              have l1_w5 := own_lt s1_w5
              have r2_w5 := own_row s2_w5
              have f2_w5 := own_free s2_w5
              have l2_w5 := own_lt s2_w5
              (try clear r0_w4); (try clear f0_w4)
              (try clear r1_w4); (try clear f1_w4)
              (try clear r2_w4); (try clear f2_w4)
              go_wp2_with fail
              go_ret
              exact ⟨rfl, a_w5⟩
          · have e4 : decide (t ≤ a) = false := decide_eq_false h4
            by_cases h5 : a + o ≤ f
            · have x1 : r1 = f - o + i := by rw [← v1, if_pos h5]
              have x2 : l2 = t - o + i := by rw [← v4, if_neg h4, if_neg (by omega)]
              have HS : Hid (∀ w, Calls Try.prog 19 #[.agg #[.int .i64 f, .int .i64 t], .agg #[.int .i64 a, .int .i64 o, .int .i64 i]] w fun e w' => e = .returned (.tuple #[.agg #[.int .i64 r1, .int .i64 l2], .bool true]) ∧ AnyLater w w') := Lib.hid (fun w => mspan_yes f t a o i r1 l2 w hr1 hl2 (by omega))
              have k1 : ((l2 - r1) != (t - f)) = false := by simp; omega
              have k2 : (r1 != (f - o + i)) = false := by simp; omega
              clear v1 v2 v3 v4 x1 x2
              go_enter Try.func6, Try.ntmps6
              go_wp2_with fail
              first | refine settle_wp (fun wS => AnyLater w wS ∧ wS.heap[w.heap.size]? = some (.cells #[.int .i64 f, .int .i64 t] 33) ∧ wS.heap[w.heap.size + 1]? = some (.cells #[.int .i64 a, .int .i64 o, .int .i64 i] 23)) ?_ ?_ | refine settle_calls (fun wS => AnyLater w wS ∧ wS.heap[w.heap.size]? = some (.cells #[.int .i64 f, .int .i64 t] 33) ∧ wS.heap[w.heap.size + 1]? = some (.cells #[.int .i64 a, .int .i64 o, .int .i64 i] 23)) ?_ ?_
              · refine ⟨?_, ?_, ?_⟩
                · repeat' (first | with_reducible assumption | with_reducible exact AnyLater.refl _ | with_reducible apply AnyLater.setCell | with_reducible apply AnyLater.later | with_reducible apply AnyLater.drewN | with_reducible apply AnyLater.drew | with_reducible apply AnyLater.alloc | ((try simp only [World.size_alloc, World.size_setCell, World.size_drew]); (try dsimp only); omega))
                · ((repeat (first | with_reducible assumption | ((with_reducible apply heap_new); (try simp only [World.size_alloc, World.size_setCell, World.size_drew, World.heap_drewN]); done) | ((with_reducible apply heap_new); (try simp only [World.size_alloc, World.size_setCell, World.size_drew, World.heap_drewN]); omega) | (with_reducible refine heap_old (by (try simp only [World.size_alloc, World.size_setCell, World.size_drew, World.heap_drewN]); omega) ?_) | (with_reducible refine heap_drew ?_) | (with_reducible refine heap_far (by omega) ?_) | (with_reducible apply heap_at))); all_goals rfl)
                · ((repeat (first | with_reducible assumption | ((with_reducible apply heap_new); (try simp only [World.size_alloc, World.size_setCell, World.size_drew, World.heap_drewN]); done) | ((with_reducible apply heap_new); (try simp only [World.size_alloc, World.size_setCell, World.size_drew, World.heap_drewN]); omega) | (with_reducible refine heap_old (by (try simp only [World.size_alloc, World.size_setCell, World.size_drew, World.heap_drewN]); omega) ?_) | (with_reducible refine heap_drew ?_) | (with_reducible refine heap_far (by omega) ?_) | (with_reducible apply heap_at))); all_goals rfl)
              rintro w1 ⟨b_w1, s0_w1, s1_w1⟩
              have a_w1 := b_w1
              have r0_w1 := own_row s0_w1
              have f0_w1 := own_free s0_w1
              have l0_w1 := own_lt s0_w1
              have r1_w1 := own_row s1_w1
              have f1_w1 := own_free s1_w1
              have l1_w1 := own_lt s1_w1
              have z_w1 := b_w1.below.size
              refine (xgood_any a o i n _ true HG.out).mono ?_
              rintro e w2 ⟨rfl, b_w2⟩
              have z_w2 := b_w2.below.size
              have a_w2 := a_w1.trans b_w2
              have s0_w2 := any_own b_w2 s0_w1
              have s1_w2 := any_own b_w2 s1_w1
              have r0_w2 := own_row s0_w2
              have f0_w2 := own_free s0_w2
              have l0_w2 := own_lt s0_w2
              have r1_w2 := own_row s1_w2
              have f1_w2 := own_free s1_w2
              have l1_w2 := own_lt s1_w2
              (try clear r0_w1); (try clear f0_w1)
              (try clear r1_w1); (try clear f1_w1)
              go_wp2_with fail
              refine (HS.out _).mono ?_
              rintro e w3 ⟨rfl, b_w3⟩
              have z_w3 := b_w3.below.size
              have a_w3 := a_w2.trans b_w3
              have s0_w3 := any_own b_w3 s0_w2
              have s1_w3 := any_own b_w3 s1_w2
              have r0_w3 := own_row s0_w3
              have f0_w3 := own_free s0_w3
              have l0_w3 := own_lt s0_w3
              have r1_w3 := own_row s1_w3
              have f1_w3 := own_free s1_w3
              have l1_w3 := own_lt s1_w3
              (try clear r0_w2); (try clear f0_w2)
              (try clear r1_w2); (try clear f1_w2)
              go_wp2_with fail
              first | refine settle_wp (fun wS => AnyLater w3 wS ∧ wS.heap[w3.heap.size]? = some (.cells #[.int .i64 r1, .int .i64 l2] 33)) ?_ ?_ | refine settle_calls (fun wS => AnyLater w3 wS ∧ wS.heap[w3.heap.size]? = some (.cells #[.int .i64 r1, .int .i64 l2] 33)) ?_ ?_
              · refine ⟨?_, ?_⟩
                · repeat' (first | with_reducible assumption | with_reducible exact AnyLater.refl _ | with_reducible apply AnyLater.setCell | with_reducible apply AnyLater.later | with_reducible apply AnyLater.drewN | with_reducible apply AnyLater.drew | with_reducible apply AnyLater.alloc | ((try simp only [World.size_alloc, World.size_setCell, World.size_drew]); (try dsimp only); omega))
                · ((repeat (first | with_reducible assumption | ((with_reducible apply heap_new); (try simp only [World.size_alloc, World.size_setCell, World.size_drew, World.heap_drewN]); done) | ((with_reducible apply heap_new); (try simp only [World.size_alloc, World.size_setCell, World.size_drew, World.heap_drewN]); omega) | (with_reducible refine heap_old (by (try simp only [World.size_alloc, World.size_setCell, World.size_drew, World.heap_drewN]); omega) ?_) | (with_reducible refine heap_drew ?_) | (with_reducible refine heap_far (by omega) ?_) | (with_reducible apply heap_at))); all_goals rfl)
              rintro w4 ⟨b_w4, s2_w4⟩
              have a_w4 := a_w3.trans b_w4
              have s0_w4 := any_own b_w4 s0_w3
              have s1_w4 := any_own b_w4 s1_w3
              have r0_w4 := own_row s0_w4
              have f0_w4 := own_free s0_w4
              have l0_w4 := own_lt s0_w4
              have r1_w4 := own_row s1_w4
              have f1_w4 := own_free s1_w4
              have l1_w4 := own_lt s1_w4
              (try clear r0_w3); (try clear f0_w3)
              (try clear r1_w3); (try clear f1_w3)
              have r2_w4 := own_row s2_w4
              have f2_w4 := own_free s2_w4
              have l2_w4 := own_lt s2_w4
              have z_w4 := b_w4.below.size
              apply wp_region_mem (34) [] (by kernel_rfl) (by kernel_rfl) (by simp)
              case hstab =>
                intro e he v x y hxy hv
                simp only [List.mem_cons, List.not_mem_nil, or_false] at he
              case hlex =>
                intro U
                have q0 := fun (v : Later (later U)) => own_row (any_own ⟨v, rfl⟩ (any_own ⟨U, rfl⟩ s0_w4))
                have q1 := fun (v : Later (later U)) => own_row (any_own ⟨v, rfl⟩ (any_own ⟨U, rfl⟩ s1_w4))
                have q2 := fun (v : Later (later U)) => own_row (any_own ⟨v, rfl⟩ (any_own ⟨U, rfl⟩ s2_w4))
                simp only [absFrom, absOp, idx, List.map_cons, List.map_nil, List.contains_cons, List.contains_nil, Nat.reduceBEq, Bool.or_false, Bool.false_or, Bool.true_or, Bool.or_true, Bool.false_eq_true, Nat.reduceLeDiff, Nat.reduceAdd, if_false, if_true]
                repeat (go_big_quiet_step (first | (go_at_call 7; exact in_later (mright_any _ _ _ _ _ _ (by assumption))) | (go_at_call 9; exact in_later (mleft_any _ _ _ _ _ _ (by assumption))) | (go_at_call 11; exact in_later (mlives_any _))))
                exact wpQuiet_nil rfl
              case hown =>
                intro e he o ho
                simp only [List.mem_cons, List.not_mem_nil, or_false] at he
              case htail =>
                intro g u hst hne
                have b_w5 : AnyLater w4 (later u) := ⟨u, rfl⟩
                generalize later u = w5 at *
                clear u
                clear hst hne
                simp only [fillAll, Act.put, List.setIfInBounds_toArray, List.set_cons_zero, List.set_cons_succ, List.drop_succ_cons, List.drop_zero]
                have z_w5 := b_w5.below.size
                have a_w5 := a_w4.trans b_w5
                have s0_w5 := any_own b_w5 s0_w4
                have s1_w5 := any_own b_w5 s1_w4
                have s2_w5 := any_own b_w5 s2_w4
                have r0_w5 := own_row s0_w5
                have f0_w5 := own_free s0_w5
                have l0_w5 := own_lt s0_w5
                have r1_w5 := own_row s1_w5
                have f1_w5 := own_free s1_w5
                have l1_w5 := own_lt s1_w5
                have r2_w5 := own_row s2_w5
                have f2_w5 := own_free s2_w5
                have l2_w5 := own_lt s2_w5
                (try clear r0_w4); (try clear f0_w4)
                (try clear r1_w4); (try clear f1_w4)
                (try clear r2_w4); (try clear f2_w4)
                go_wp2_with fail
                go_ret
                exact ⟨rfl, a_w5⟩
            · have e5 : decide (a + o ≤ f) = false := decide_eq_false h5
              clear v1 v2 v3 v4
              by_cases h6 : r1 < l2
              · have HS : Hid (∀ w, Calls Try.prog 19 #[.agg #[.int .i64 f, .int .i64 t], .agg #[.int .i64 a, .int .i64 o, .int .i64 i]] w fun e w' => e = .returned (.tuple #[.agg #[.int .i64 r1, .int .i64 l2], .bool true]) ∧ AnyLater w w') := Lib.hid (fun w => mspan_yes f t a o i r1 l2 w hr1 hl2 h6)
                go_enter Try.func6, Try.ntmps6
                go_wp2_with fail
                first | refine settle_wp (fun wS => AnyLater w wS ∧ wS.heap[w.heap.size]? = some (.cells #[.int .i64 f, .int .i64 t] 33) ∧ wS.heap[w.heap.size + 1]? = some (.cells #[.int .i64 a, .int .i64 o, .int .i64 i] 23)) ?_ ?_ | refine settle_calls (fun wS => AnyLater w wS ∧ wS.heap[w.heap.size]? = some (.cells #[.int .i64 f, .int .i64 t] 33) ∧ wS.heap[w.heap.size + 1]? = some (.cells #[.int .i64 a, .int .i64 o, .int .i64 i] 23)) ?_ ?_
                · refine ⟨?_, ?_, ?_⟩
                  · repeat' (first | with_reducible assumption | with_reducible exact AnyLater.refl _ | with_reducible apply AnyLater.setCell | with_reducible apply AnyLater.later | with_reducible apply AnyLater.drewN | with_reducible apply AnyLater.drew | with_reducible apply AnyLater.alloc | ((try simp only [World.size_alloc, World.size_setCell, World.size_drew]); (try dsimp only); omega))
                  · ((repeat (first | with_reducible assumption | ((with_reducible apply heap_new); (try simp only [World.size_alloc, World.size_setCell, World.size_drew, World.heap_drewN]); done) | ((with_reducible apply heap_new); (try simp only [World.size_alloc, World.size_setCell, World.size_drew, World.heap_drewN]); omega) | (with_reducible refine heap_old (by (try simp only [World.size_alloc, World.size_setCell, World.size_drew, World.heap_drewN]); omega) ?_) | (with_reducible refine heap_drew ?_) | (with_reducible refine heap_far (by omega) ?_) | (with_reducible apply heap_at))); all_goals rfl)
                  · ((repeat (first | with_reducible assumption | ((with_reducible apply heap_new); (try simp only [World.size_alloc, World.size_setCell, World.size_drew, World.heap_drewN]); done) | ((with_reducible apply heap_new); (try simp only [World.size_alloc, World.size_setCell, World.size_drew, World.heap_drewN]); omega) | (with_reducible refine heap_old (by (try simp only [World.size_alloc, World.size_setCell, World.size_drew, World.heap_drewN]); omega) ?_) | (with_reducible refine heap_drew ?_) | (with_reducible refine heap_far (by omega) ?_) | (with_reducible apply heap_at))); all_goals rfl)
                rintro w1 ⟨b_w1, s0_w1, s1_w1⟩
                have a_w1 := b_w1
                have r0_w1 := own_row s0_w1
                have f0_w1 := own_free s0_w1
                have l0_w1 := own_lt s0_w1
                have r1_w1 := own_row s1_w1
                have f1_w1 := own_free s1_w1
                have l1_w1 := own_lt s1_w1
                have z_w1 := b_w1.below.size
                refine (xgood_any a o i n _ true HG.out).mono ?_
                rintro e w2 ⟨rfl, b_w2⟩
                have z_w2 := b_w2.below.size
                have a_w2 := a_w1.trans b_w2
                have s0_w2 := any_own b_w2 s0_w1
                have s1_w2 := any_own b_w2 s1_w1
                have r0_w2 := own_row s0_w2
                have f0_w2 := own_free s0_w2
                have l0_w2 := own_lt s0_w2
                have r1_w2 := own_row s1_w2
                have f1_w2 := own_free s1_w2
                have l1_w2 := own_lt s1_w2
                (try clear r0_w1); (try clear f0_w1)
                (try clear r1_w1); (try clear f1_w1)
                go_wp2_with fail
                refine (HS.out _).mono ?_
                rintro e w3 ⟨rfl, b_w3⟩
                have z_w3 := b_w3.below.size
                have a_w3 := a_w2.trans b_w3
                have s0_w3 := any_own b_w3 s0_w2
                have s1_w3 := any_own b_w3 s1_w2
                have r0_w3 := own_row s0_w3
                have f0_w3 := own_free s0_w3
                have l0_w3 := own_lt s0_w3
                have r1_w3 := own_row s1_w3
                have f1_w3 := own_free s1_w3
                have l1_w3 := own_lt s1_w3
                (try clear r0_w2); (try clear f0_w2)
                (try clear r1_w2); (try clear f1_w2)
                go_wp2_with fail
                first | refine settle_wp (fun wS => AnyLater w3 wS ∧ wS.heap[w3.heap.size]? = some (.cells #[.int .i64 r1, .int .i64 l2] 33)) ?_ ?_ | refine settle_calls (fun wS => AnyLater w3 wS ∧ wS.heap[w3.heap.size]? = some (.cells #[.int .i64 r1, .int .i64 l2] 33)) ?_ ?_
                · refine ⟨?_, ?_⟩
                  · repeat' (first | with_reducible assumption | with_reducible exact AnyLater.refl _ | with_reducible apply AnyLater.setCell | with_reducible apply AnyLater.later | with_reducible apply AnyLater.drewN | with_reducible apply AnyLater.drew | with_reducible apply AnyLater.alloc | ((try simp only [World.size_alloc, World.size_setCell, World.size_drew]); (try dsimp only); omega))
                  · ((repeat (first | with_reducible assumption | ((with_reducible apply heap_new); (try simp only [World.size_alloc, World.size_setCell, World.size_drew, World.heap_drewN]); done) | ((with_reducible apply heap_new); (try simp only [World.size_alloc, World.size_setCell, World.size_drew, World.heap_drewN]); omega) | (with_reducible refine heap_old (by (try simp only [World.size_alloc, World.size_setCell, World.size_drew, World.heap_drewN]); omega) ?_) | (with_reducible refine heap_drew ?_) | (with_reducible refine heap_far (by omega) ?_) | (with_reducible apply heap_at))); all_goals rfl)
                rintro w4 ⟨b_w4, s2_w4⟩
                have a_w4 := a_w3.trans b_w4
                have s0_w4 := any_own b_w4 s0_w3
                have s1_w4 := any_own b_w4 s1_w3
                have r0_w4 := own_row s0_w4
                have f0_w4 := own_free s0_w4
                have l0_w4 := own_lt s0_w4
                have r1_w4 := own_row s1_w4
                have f1_w4 := own_free s1_w4
                have l1_w4 := own_lt s1_w4
                (try clear r0_w3); (try clear f0_w3)
                (try clear r1_w3); (try clear f1_w3)
                have r2_w4 := own_row s2_w4
                have f2_w4 := own_free s2_w4
                have l2_w4 := own_lt s2_w4
                have z_w4 := b_w4.below.size
                apply wp_region_mem (34) [] (by kernel_rfl) (by kernel_rfl) (by simp)
                case hstab =>
                  intro e he v x y hxy hv
                  simp only [List.mem_cons, List.not_mem_nil, or_false] at he
                case hlex =>
                  intro U
                  have q0 := fun (v : Later (later U)) => own_row (any_own ⟨v, rfl⟩ (any_own ⟨U, rfl⟩ s0_w4))
                  have q1 := fun (v : Later (later U)) => own_row (any_own ⟨v, rfl⟩ (any_own ⟨U, rfl⟩ s1_w4))
                  have q2 := fun (v : Later (later U)) => own_row (any_own ⟨v, rfl⟩ (any_own ⟨U, rfl⟩ s2_w4))
                  simp only [absFrom, absOp, idx, List.map_cons, List.map_nil, List.contains_cons, List.contains_nil, Nat.reduceBEq, Bool.or_false, Bool.false_or, Bool.true_or, Bool.or_true, Bool.false_eq_true, Nat.reduceLeDiff, Nat.reduceAdd, if_false, if_true]
                  repeat (go_big_quiet_step (first | (go_at_call 7; exact in_later (mright_any _ _ _ _ _ _ (by assumption))) | (go_at_call 9; exact in_later (mleft_any _ _ _ _ _ _ (by assumption))) | (go_at_call 11; exact in_later (mlives_any _))))
                  exact wpQuiet_nil rfl
                case hown =>
                  intro e he o ho
                  simp only [List.mem_cons, List.not_mem_nil, or_false] at he
                case htail =>
                  intro g u hst hne
                  have b_w5 : AnyLater w4 (later u) := ⟨u, rfl⟩
                  generalize later u = w5 at *
                  clear u
                  clear hst hne
                  simp only [fillAll, Act.put, List.setIfInBounds_toArray, List.set_cons_zero, List.set_cons_succ, List.drop_succ_cons, List.drop_zero]
                  have z_w5 := b_w5.below.size
                  have a_w5 := a_w4.trans b_w5
                  have s0_w5 := any_own b_w5 s0_w4
                  have s1_w5 := any_own b_w5 s1_w4
                  have s2_w5 := any_own b_w5 s2_w4
                  have r0_w5 := own_row s0_w5
                  have f0_w5 := own_free s0_w5
                  have l0_w5 := own_lt s0_w5
                  have r1_w5 := own_row s1_w5
                  have f1_w5 := own_free s1_w5
                  have l1_w5 := own_lt s1_w5
                  have r2_w5 := own_row s2_w5
                  have f2_w5 := own_free s2_w5
                  have l2_w5 := own_lt s2_w5
                  (try clear r0_w4); (try clear f0_w4)
                  (try clear r1_w4); (try clear f1_w4)
                  (try clear r2_w4); (try clear f2_w4)
                  go_wp2_with fail
                  go_ret
                  exact ⟨rfl, a_w5⟩
              · have HS : Hid (∀ w, Calls Try.prog 19 #[.agg #[.int .i64 f, .int .i64 t], .agg #[.int .i64 a, .int .i64 o, .int .i64 i]] w fun e w' => e = .returned (.tuple #[.agg #[.int .i64 0, .int .i64 0], .bool false]) ∧ AnyLater w w') := Lib.hid (fun w => mspan_no f t a o i r1 l2 w hr1 hl2 h6)
                go_enter Try.func6, Try.ntmps6
                go_wp2_with fail
                first | refine settle_wp (fun wS => AnyLater w wS ∧ wS.heap[w.heap.size]? = some (.cells #[.int .i64 f, .int .i64 t] 33) ∧ wS.heap[w.heap.size + 1]? = some (.cells #[.int .i64 a, .int .i64 o, .int .i64 i] 23)) ?_ ?_ | refine settle_calls (fun wS => AnyLater w wS ∧ wS.heap[w.heap.size]? = some (.cells #[.int .i64 f, .int .i64 t] 33) ∧ wS.heap[w.heap.size + 1]? = some (.cells #[.int .i64 a, .int .i64 o, .int .i64 i] 23)) ?_ ?_
                · refine ⟨?_, ?_, ?_⟩
                  · repeat' (first | with_reducible assumption | with_reducible exact AnyLater.refl _ | with_reducible apply AnyLater.setCell | with_reducible apply AnyLater.later | with_reducible apply AnyLater.drewN | with_reducible apply AnyLater.drew | with_reducible apply AnyLater.alloc | ((try simp only [World.size_alloc, World.size_setCell, World.size_drew]); (try dsimp only); omega))
                  · ((repeat (first | with_reducible assumption | ((with_reducible apply heap_new); (try simp only [World.size_alloc, World.size_setCell, World.size_drew, World.heap_drewN]); done) | ((with_reducible apply heap_new); (try simp only [World.size_alloc, World.size_setCell, World.size_drew, World.heap_drewN]); omega) | (with_reducible refine heap_old (by (try simp only [World.size_alloc, World.size_setCell, World.size_drew, World.heap_drewN]); omega) ?_) | (with_reducible refine heap_drew ?_) | (with_reducible refine heap_far (by omega) ?_) | (with_reducible apply heap_at))); all_goals rfl)
                  · ((repeat (first | with_reducible assumption | ((with_reducible apply heap_new); (try simp only [World.size_alloc, World.size_setCell, World.size_drew, World.heap_drewN]); done) | ((with_reducible apply heap_new); (try simp only [World.size_alloc, World.size_setCell, World.size_drew, World.heap_drewN]); omega) | (with_reducible refine heap_old (by (try simp only [World.size_alloc, World.size_setCell, World.size_drew, World.heap_drewN]); omega) ?_) | (with_reducible refine heap_drew ?_) | (with_reducible refine heap_far (by omega) ?_) | (with_reducible apply heap_at))); all_goals rfl)
                rintro w1 ⟨b_w1, s0_w1, s1_w1⟩
                have a_w1 := b_w1
                have r0_w1 := own_row s0_w1
                have f0_w1 := own_free s0_w1
                have l0_w1 := own_lt s0_w1
                have r1_w1 := own_row s1_w1
                have f1_w1 := own_free s1_w1
                have l1_w1 := own_lt s1_w1
                have z_w1 := b_w1.below.size
                refine (xgood_any a o i n _ true HG.out).mono ?_
                rintro e w2 ⟨rfl, b_w2⟩
                have z_w2 := b_w2.below.size
                have a_w2 := a_w1.trans b_w2
                have s0_w2 := any_own b_w2 s0_w1
                have s1_w2 := any_own b_w2 s1_w1
                have r0_w2 := own_row s0_w2
                have f0_w2 := own_free s0_w2
                have l0_w2 := own_lt s0_w2
                have r1_w2 := own_row s1_w2
                have f1_w2 := own_free s1_w2
                have l1_w2 := own_lt s1_w2
                (try clear r0_w1); (try clear f0_w1)
                (try clear r1_w1); (try clear f1_w1)
                go_wp2_with fail
                refine (HS.out _).mono ?_
                rintro e w3 ⟨rfl, b_w3⟩
                have z_w3 := b_w3.below.size
                have a_w3 := a_w2.trans b_w3
                have s0_w3 := any_own b_w3 s0_w2
                have s1_w3 := any_own b_w3 s1_w2
                have r0_w3 := own_row s0_w3
                have f0_w3 := own_free s0_w3
                have l0_w3 := own_lt s0_w3
                have r1_w3 := own_row s1_w3
                have f1_w3 := own_free s1_w3
                have l1_w3 := own_lt s1_w3
                (try clear r0_w2); (try clear f0_w2)
                (try clear r1_w2); (try clear f1_w2)
                go_wp2_with fail
                first | refine settle_wp (fun wS => AnyLater w3 wS ∧ wS.heap[w3.heap.size]? = some (.cells #[.int .i64 0, .int .i64 0] 33)) ?_ ?_ | refine settle_calls (fun wS => AnyLater w3 wS ∧ wS.heap[w3.heap.size]? = some (.cells #[.int .i64 0, .int .i64 0] 33)) ?_ ?_
                · refine ⟨?_, ?_⟩
                  · repeat' (first | with_reducible assumption | with_reducible exact AnyLater.refl _ | with_reducible apply AnyLater.setCell | with_reducible apply AnyLater.later | with_reducible apply AnyLater.drewN | with_reducible apply AnyLater.drew | with_reducible apply AnyLater.alloc | ((try simp only [World.size_alloc, World.size_setCell, World.size_drew]); (try dsimp only); omega))
                  · ((repeat (first | with_reducible assumption | ((with_reducible apply heap_new); (try simp only [World.size_alloc, World.size_setCell, World.size_drew, World.heap_drewN]); done) | ((with_reducible apply heap_new); (try simp only [World.size_alloc, World.size_setCell, World.size_drew, World.heap_drewN]); omega) | (with_reducible refine heap_old (by (try simp only [World.size_alloc, World.size_setCell, World.size_drew, World.heap_drewN]); omega) ?_) | (with_reducible refine heap_drew ?_) | (with_reducible refine heap_far (by omega) ?_) | (with_reducible apply heap_at))); all_goals rfl)
                rintro w4 ⟨b_w4, s2_w4⟩
                have a_w4 := a_w3.trans b_w4
                have s0_w4 := any_own b_w4 s0_w3
                have s1_w4 := any_own b_w4 s1_w3
                have r0_w4 := own_row s0_w4
                have f0_w4 := own_free s0_w4
                have l0_w4 := own_lt s0_w4
                have r1_w4 := own_row s1_w4
                have f1_w4 := own_free s1_w4
                have l1_w4 := own_lt s1_w4
                (try clear r0_w3); (try clear f0_w3)
                (try clear r1_w3); (try clear f1_w3)
                have r2_w4 := own_row s2_w4
                have f2_w4 := own_free s2_w4
                have l2_w4 := own_lt s2_w4
                have z_w4 := b_w4.below.size
                apply wp_region_mem (34) [] (by kernel_rfl) (by kernel_rfl) (by simp)
                case hstab =>
                  intro e he v x y hxy hv
                  simp only [List.mem_cons, List.not_mem_nil, or_false] at he
                case hlex =>
                  intro U
                  have q0 := fun (v : Later (later U)) => own_row (any_own ⟨v, rfl⟩ (any_own ⟨U, rfl⟩ s0_w4))
                  have q1 := fun (v : Later (later U)) => own_row (any_own ⟨v, rfl⟩ (any_own ⟨U, rfl⟩ s1_w4))
                  have q2 := fun (v : Later (later U)) => own_row (any_own ⟨v, rfl⟩ (any_own ⟨U, rfl⟩ s2_w4))
                  simp only [absFrom, absOp, idx, List.map_cons, List.map_nil, List.contains_cons, List.contains_nil, Nat.reduceBEq, Bool.or_false, Bool.false_or, Bool.true_or, Bool.or_true, Bool.false_eq_true, Nat.reduceLeDiff, Nat.reduceAdd, if_false, if_true]
                  repeat (go_big_quiet_step (first | (go_at_call 7; exact in_later (mright_any _ _ _ _ _ _ (by assumption))) | (go_at_call 9; exact in_later (mleft_any _ _ _ _ _ _ (by assumption))) | (go_at_call 11; exact in_later (mlives_any _))))
                  exact wpQuiet_nil rfl
                case hown =>
                  intro e he o ho
                  simp only [List.mem_cons, List.not_mem_nil, or_false] at he
                case htail =>
                  intro g u hst hne
                  have b_w5 : AnyLater w4 (later u) := ⟨u, rfl⟩
                  generalize later u = w5 at *
                  clear u
                  clear hst hne
                  simp only [fillAll, Act.put, List.setIfInBounds_toArray, List.set_cons_zero, List.set_cons_succ, List.drop_succ_cons, List.drop_zero]
                  have z_w5 := b_w5.below.size
                  have a_w5 := a_w4.trans b_w5
                  have s0_w5 := any_own b_w5 s0_w4
                  have s1_w5 := any_own b_w5 s1_w4
                  have s2_w5 := any_own b_w5 s2_w4
                  have r0_w5 := own_row s0_w5
                  have f0_w5 := own_free s0_w5
                  have l0_w5 := own_lt s0_w5
                  have r1_w5 := own_row s1_w5
                  have f1_w5 := own_free s1_w5
                  have l1_w5 := own_lt s1_w5
                  have r2_w5 := own_row s2_w5
                  have f2_w5 := own_free s2_w5
                  have l2_w5 := own_lt s2_w5
                  (try clear r0_w4); (try clear f0_w4)
                  (try clear r1_w4); (try clear f1_w4)
                  (try clear r2_w4); (try clear f2_w4)
                  go_wp2_with fail
                  go_ret
                  exact ⟨rfl, a_w5⟩
end Go.Proofs.Ytibeoohjdinceaa
