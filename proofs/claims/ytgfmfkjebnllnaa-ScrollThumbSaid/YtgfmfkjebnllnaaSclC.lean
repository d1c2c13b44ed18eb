/- scroll: the four laws, walked on what band's Less and Move tell. -/
import Derived.Test.YtgfmfkjebnllnaaSclB
import Derived.BigGuardPart
import Derived.BigQuiet
namespace Go.Proofs.Ytgfmfkjebnllnaa
set_option linter.unusedSimpArgs false
set_option linter.unusedVariables false
set_option linter.unusedSectionVars false
open Go.RowKit

set_option maxRecDepth 100000 in
set_option maxHeartbeats 3200000 in
theorem scrollClamps_any (S : SSays) (w : World) (y t h p : Int) (hp : -9223372036854775808 ≤ p ∧ p ≤ 9223372036854775807) :
    Calls Try.prog 3 #[.agg #[.int .i64 y, .int .i64 t, .int .i64 h], .int .i64 p] w fun e w' => e = .returned (.bool true) ∧ AnyLater w w' := by
  obtain ⟨m, hm⟩ : ∃ m, mostZ t h = m := ⟨_, rfl⟩
  obtain ⟨s, hs⟩ : ∃ s, stZ y t h = s := ⟨_, rfl⟩
  obtain ⟨g, hg⟩ : ∃ g, pageZ y t h p = g := ⟨_, rfl⟩
  have HL := Lib.hid (fun w' => sclives_any S w')
  have HP := Lib.hid hp
  clear S hp
  go_enter Try.func3, Try.ntmps3
  go_wp2_with fail
  first | refine settle_wp (fun wS => AnyLater w wS ∧ wS.heap[w.heap.size]? = some (.cells #[.int .i64 y, .int .i64 t, .int .i64 h] 23)) ?_ ?_ | refine settle_calls (fun wS => AnyLater w wS ∧ wS.heap[w.heap.size]? = some (.cells #[.int .i64 y, .int .i64 t, .int .i64 h] 23)) ?_ ?_
  · refine ⟨?_, ?_⟩
    · repeat' (first | with_reducible assumption | with_reducible exact AnyLater.refl _ | with_reducible apply AnyLater.setCell | with_reducible apply AnyLater.later | with_reducible apply AnyLater.drewN | with_reducible apply AnyLater.drew | with_reducible apply AnyLater.alloc | ((try simp only [World.size_alloc, World.size_setCell, World.size_drew]); (try dsimp only); omega))
    · ((repeat (first | with_reducible assumption | ((with_reducible apply heap_new); (try simp only [World.size_alloc, World.size_setCell, World.size_drew, World.heap_drewN]); done) | ((with_reducible apply heap_new); (try simp only [World.size_alloc, World.size_setCell, World.size_drew, World.heap_drewN]); omega) | (with_reducible refine heap_old (by (try simp only [World.size_alloc, World.size_setCell, World.size_drew, World.heap_drewN]); omega) ?_) | (with_reducible refine heap_drew ?_) | (with_reducible refine heap_far (by omega) ?_) | (with_reducible apply heap_at))); all_goals rfl)
  rintro w1 ⟨b_w1, s0_w1⟩
  have a_w1 := b_w1
  have r0_w1 := own_row s0_w1
  have f0_w1 := own_free s0_w1
  have l0_w1 := own_lt s0_w1
  have z_w1 := b_w1.below.size
  apply wp_region_mem (51) [] (by kernel_rfl) (by kernel_rfl) (by simp)
  case hstab =>
    intro e he v x y hxy hv
    simp only [List.mem_cons, List.not_mem_nil, or_false] at he
  case hlex =>
    intro U
    have q0 := fun (v : Later (later U)) => own_row (any_own ⟨v, rfl⟩ (any_own ⟨U, rfl⟩ s0_w1))
    simp only [absFrom, absOp, idx, List.map_cons, List.map_nil, List.contains_cons, List.contains_nil, Nat.reduceBEq, Bool.or_false, Bool.false_or, Bool.true_or, Bool.or_true, Bool.false_eq_true, Nat.reduceLeDiff, Nat.reduceAdd, if_false, if_true]
    repeat (go_big_quiet_step (first | (go_at_call 7; exact in_later_same (smost_any _ _ _ _ (by assumption))) | (go_at_call 8; exact in_later_same (rmost_any _ _ _ _ (by assumption))) | (go_at_call 9; exact in_later_same (sclamp_any _ _ _ _ _ (by assumption))) | (go_at_call 10; exact in_later_same (rclamp_any _ _ _ _ _ (by assumption))) | (go_at_call 11; exact in_later_same (spage_any _ _ _ _ _ _ (by assumption))) | (go_at_call 12; exact in_later_same (rpage_any _ _ _ _ _ _ HP.out (by assumption))) | (go_at_call 13; exact in_later (HL.out _))))
    exact wpQuiet_nil rfl
  case hown =>
    intro e he o ho
    simp only [List.mem_cons, List.not_mem_nil, or_false] at he
  case htail =>
    intro g u hst hne
    have b_w2 : AnyLater w1 (later u) := ⟨u, rfl⟩
    generalize later u = w2 at *
    clear u
    clear hst hne
    simp only [fillAll, Act.put, List.setIfInBounds_toArray, List.set_cons_zero, List.set_cons_succ, List.drop_succ_cons, List.drop_zero]
    have z_w2 := b_w2.below.size
    have a_w2 := a_w1.trans b_w2
    have s0_w2 := any_own b_w2 s0_w1
    have r0_w2 := own_row s0_w2
    have f0_w2 := own_free s0_w2
    have l0_w2 := own_lt s0_w2
    (try clear r0_w1); (try clear f0_w1)
    go_wp2_with fail
    go_ret
    exact ⟨rfl, by repeat' (first | with_reducible assumption | with_reducible exact AnyLater.refl _ | with_reducible apply AnyLater.setCell | with_reducible apply AnyLater.later | with_reducible apply AnyLater.drewN | with_reducible apply AnyLater.drew | with_reducible apply AnyLater.alloc | ((try simp only [World.size_alloc, World.size_setCell, World.size_drew]); (try dsimp only); omega))⟩

theorem reveal_seen {y a b t h : Int} (h1 : 0 ≤ a) (h2 : a ≤ b) (h3 : b ≤ inZ t) (h4 : b - a ≤ inZ h) (h5 : inZ y ≤ mostZ t h) : revZ y a b t h ≤ a ∧ b ≤ revZ y a b t h + inZ h := by
  have k1 := inZ_in t
  have k2 := inZ_in h
  have k3 := inZ_in y
  have ea : inZ a = a := inZ_same (by omega)
  have eb : inZ b = b := inZ_same (by omega)
  unfold revZ
  rw [ea, eb]
  have hz : 0 ≤ shZ (inZ y) a b (inZ h) ∧ shZ (inZ y) a b (inZ h) ≤ mostZ t h ∧ shZ (inZ y) a b (inZ h) ≤ a ∧ b ≤ shZ (inZ y) a b (inZ h) + inZ h := by
    unfold shZ mostZ at *
    split at h5
    · split
      · omega
      · split
        · split <;> omega
        · omega
    · split
      · omega
      · split
        · split <;> omega
        · omega
  obtain ⟨z1, z2, z3, z4⟩ := hz
  have e : stZ (shZ (inZ y) a b (inZ h)) t h = shZ (inZ y) a b (inZ h) := by
    have := inZ_in t
    have q := mostZ_in t h
    unfold stZ
    rw [inZ_same (by omega), if_neg (by omega)]
  rw [e]
  exact ⟨z3, z4⟩

set_option maxRecDepth 100000 in
set_option maxHeartbeats 6400000 in
theorem scrollReveals_any (S : SSays) (w : World) (y t h a b : Int) (ha : -9223372036854775808 ≤ a ∧ a ≤ 9223372036854775807) (hb : -9223372036854775808 ≤ b ∧ b ≤ 9223372036854775807) :
    Calls Try.prog 5 #[.agg #[.int .i64 y, .int .i64 t, .int .i64 h], .int .i64 a, .int .i64 b] w fun e w' => e = .returned (.bool true) ∧ AnyLater w w' := by
  have hseen := reveal_seen (y := y) (a := a) (b := b) (t := t) (h := h)
  obtain ⟨t1, t2⟩ := inZ_in t
  obtain ⟨h1, h2⟩ := inZ_in h
  obtain ⟨v, hv⟩ : ∃ z, revZ y a b t h = z := ⟨_, rfl⟩
  have hv1 : 0 ≤ v ∧ v ≤ 1073741824 := by
    rw [← hv]; unfold revZ
    have q1 := stZ_in (shZ (inZ y) (inZ a) (inZ b) (inZ h)) t h
    have q2 := mostZ_in t h
    omega
  obtain ⟨T, hT⟩ : ∃ z, inZ t = z := ⟨_, rfl⟩
  obtain ⟨H, hH⟩ : ∃ z, inZ h = z := ⟨_, rfl⟩
  obtain ⟨Y, hY⟩ : ∃ z, inZ y = z := ⟨_, rfl⟩
  obtain ⟨M, hM⟩ : ∃ z, mostZ t h = z := ⟨_, rfl⟩
  rw [hT] at t1 t2 hseen
  rw [hH] at h1 h2 hseen
  rw [hY, hM, hv] at hseen
  have HL := Lib.hid (fun w' => sclives_any S w')
  have HV := Lib.hid hv
  obtain ⟨v1, v2⟩ := hv1
  clear S hv
  obtain ⟨a1, a2⟩ := ha
  obtain ⟨b1, b2⟩ := hb
  have hcase : (a < 0) ∨ (0 ≤ a ∧ b < a) ∨ (0 ≤ a ∧ a ≤ b ∧ T < b) ∨ (0 ≤ a ∧ a ≤ b ∧ b ≤ T ∧ H < b - a) ∨ (0 ≤ a ∧ a ≤ b ∧ b ≤ T ∧ b - a ≤ H ∧ M < Y) ∨ (0 ≤ a ∧ a ≤ b ∧ b ≤ T ∧ b - a ≤ H ∧ Y ≤ M ∧ v ≤ a ∧ b ≤ v + H) := by omega
  clear hseen
  rcases hcase with c1 | ⟨c1, c2⟩ | ⟨c1, c2, c3⟩ | ⟨c1, c2, c3, c4⟩ | ⟨c1, c2, c3, c4, c5⟩ | ⟨c1, c2, c3, c4, c5, c6, c7⟩
  case' inl => have g1 : decide (a < 0) = true := decide_eq_true c1
  case' inr.inl => have g1 : decide (a < 0) = false := decide_eq_false (by omega); have g2 : decide (b < a) = true := decide_eq_true c2
  case' inr.inr.inl => have g1 : decide (a < 0) = false := decide_eq_false (by omega); have g2 : decide (b < a) = false := decide_eq_false (by omega); have g3 : decide (T < b) = true := decide_eq_true c3
  case' inr.inr.inr.inl => have g1 : decide (a < 0) = false := decide_eq_false (by omega); have g2 : decide (b < a) = false := decide_eq_false (by omega); have g3 : decide (T < b) = false := decide_eq_false (by omega); have g4 : decide (H < b - a) = true := decide_eq_true c4
  case' inr.inr.inr.inr.inl => have g1 : decide (a < 0) = false := decide_eq_false (by omega); have g2 : decide (b < a) = false := decide_eq_false (by omega); have g3 : decide (T < b) = false := decide_eq_false (by omega); have g4 : decide (H < b - a) = false := decide_eq_false (by omega); have g5 : decide (M < Y) = true := decide_eq_true c5
  case' inr.inr.inr.inr.inr => have g1 : decide (a < 0) = false := decide_eq_false (by omega); have g2 : decide (b < a) = false := decide_eq_false (by omega); have g3 : decide (T < b) = false := decide_eq_false (by omega); have g4 : decide (H < b - a) = false := decide_eq_false (by omega); have g5 : decide (M < Y) = false := decide_eq_false (by omega); have g6 : decide (v ≤ a) = true := decide_eq_true c6; have g7 : decide (b ≤ v + H) = true := decide_eq_true c7
  all_goals
    go_enter Try.func5, Try.ntmps5
    go_wp2_with fail
    first | refine settle_wp (fun wS => AnyLater w wS ∧ wS.heap[w.heap.size]? = some (.cells #[.int .i64 y, .int .i64 t, .int .i64 h] 23)) ?_ ?_ | refine settle_calls (fun wS => AnyLater w wS ∧ wS.heap[w.heap.size]? = some (.cells #[.int .i64 y, .int .i64 t, .int .i64 h] 23)) ?_ ?_
    · refine ⟨?_, ?_⟩
      · repeat' (first | with_reducible assumption | with_reducible exact AnyLater.refl _ | with_reducible apply AnyLater.setCell | with_reducible apply AnyLater.later | with_reducible apply AnyLater.drewN | with_reducible apply AnyLater.drew | with_reducible apply AnyLater.alloc | ((try simp only [World.size_alloc, World.size_setCell, World.size_drew]); (try dsimp only); omega))
      · ((repeat (first | with_reducible assumption | ((with_reducible apply heap_new); (try simp only [World.size_alloc, World.size_setCell, World.size_drew, World.heap_drewN]); done) | ((with_reducible apply heap_new); (try simp only [World.size_alloc, World.size_setCell, World.size_drew, World.heap_drewN]); omega) | (with_reducible refine heap_old (by (try simp only [World.size_alloc, World.size_setCell, World.size_drew, World.heap_drewN]); omega) ?_) | (with_reducible refine heap_drew ?_) | (with_reducible refine heap_far (by omega) ?_) | (with_reducible apply heap_at))); all_goals rfl)
    rintro w1 ⟨b_w1, s0_w1⟩
    have a_w1 := b_w1
    have r0_w1 := own_row s0_w1
    have f0_w1 := own_free s0_w1
    have l0_w1 := own_lt s0_w1
    have z_w1 := b_w1.below.size
    go_wp2_with (first | (go_at_call 17; refine (sreveal_any _ _ _ _ _ _ _ HV.out).mono ?_; rintro e w' ⟨rfl, rfl⟩) | (go_at_call 18; refine (rreveal_any _ _ _ _ _ _ _ HV.out).mono ?_; rintro e w' ⟨rfl, rfl⟩))
    apply wp_region_mem (6) [] (by kernel_rfl) (by kernel_rfl) (by simp)
    case hstab =>
      intro e he v x y hxy hv
      simp only [List.mem_cons, List.not_mem_nil, or_false] at he
    case hlex =>
      intro U
      have q0 := fun (v : Later (later U)) => own_row (any_own ⟨v, rfl⟩ (any_own ⟨U, rfl⟩ s0_w1))
      simp only [absFrom, absOp, idx, List.map_cons, List.map_nil, List.contains_cons, List.contains_nil, Nat.reduceBEq, Bool.or_false, Bool.false_or, Bool.true_or, Bool.or_true, Bool.false_eq_true, Nat.reduceLeDiff, Nat.reduceAdd, if_false, if_true]
      repeat (go_big_quiet_step (first | (go_at_call 14; exact in_later_same (rin_any _ _ _ (by assumption))) | (go_at_call 8; exact in_later_same (rmost_any _ _ _ _ (by assumption))) | (go_at_call 13; exact in_later (HL.out _))))
      exact wpQuiet_nil rfl
    case hown =>
      intro e he o ho
      simp only [List.mem_cons, List.not_mem_nil, or_false] at he
    case htail =>
      intro g u hst hne
      have b_w2 : AnyLater w1 (later u) := ⟨u, rfl⟩
      generalize later u = w2 at *
      clear u
      clear hst hne
      simp only [fillAll, Act.put, List.setIfInBounds_toArray, List.set_cons_zero, List.set_cons_succ, List.drop_succ_cons, List.drop_zero]
      have z_w2 := b_w2.below.size
      have a_w2 := a_w1.trans b_w2
      have s0_w2 := any_own b_w2 s0_w1
      have r0_w2 := own_row s0_w2
      have f0_w2 := own_free s0_w2
      have l0_w2 := own_lt s0_w2
      (try clear r0_w1); (try clear f0_w1)
      go_wp2_with fail
      apply wp_region_mem (30) [] (by kernel_rfl) (by kernel_rfl) (by simp)
      case hstab =>
        intro e he v x y hxy hv
        simp only [List.mem_cons, List.not_mem_nil, or_false] at he
      case hlex =>
        intro U
        have q0 := fun (v : Later (later U)) => own_row (any_own ⟨v, rfl⟩ (any_own ⟨U, rfl⟩ s0_w2))
        simp only [absFrom, absOp, idx, List.map_cons, List.map_nil, List.contains_cons, List.contains_nil, Nat.reduceBEq, Bool.or_false, Bool.false_or, Bool.true_or, Bool.or_true, Bool.false_eq_true, Nat.reduceLeDiff, Nat.reduceAdd, if_false, if_true]
        repeat (go_big_quiet_step (first | (go_at_call 14; exact in_later_same (rin_any _ _ _ (by assumption))) | (go_at_call 8; exact in_later_same (rmost_any _ _ _ _ (by assumption))) | (go_at_call 13; exact in_later (HL.out _))))
        exact wpQuiet_nil rfl
      case hown =>
        intro e he o ho
        simp only [List.mem_cons, List.not_mem_nil, or_false] at he
      case htail =>
        intro g u hst hne
        have b_w3 : AnyLater w2 (later u) := ⟨u, rfl⟩
        generalize later u = w3 at *
        clear u
        clear hst hne
        simp only [fillAll, Act.put, List.setIfInBounds_toArray, List.set_cons_zero, List.set_cons_succ, List.drop_succ_cons, List.drop_zero]
        have z_w3 := b_w3.below.size
        have a_w3 := a_w2.trans b_w3
        have s0_w3 := any_own b_w3 s0_w2
        have r0_w3 := own_row s0_w3
        have f0_w3 := own_free s0_w3
        have l0_w3 := own_lt s0_w3
        (try clear r0_w2); (try clear f0_w2)
        go_wp2_with (go_at_call 13; refine (HL.out _).mono ?_; rintro e w4 ⟨rfl, b_w4⟩)
        go_ret
        exact ⟨rfl, a_w3.trans b_w4⟩
end Go.Proofs.Ytgfmfkjebnllnaa
