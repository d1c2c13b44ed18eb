/- scroll: ScrollShifts and ScrollThumb, walked on what band's Less and Move tell. -/
import Derived.Test.YtgfmfkjebnllnaaSclB
import Derived.Test.YtgfmfkjebnllnaaBandA
import Derived.BigGuardPart
import Derived.BigQuiet
namespace Go.Proofs.Ytgfmfkjebnllnaa
set_option linter.unusedSimpArgs false
set_option linter.unusedVariables false
set_option linter.unusedSectionVars false
open Go.RowKit

set_option maxRecDepth 100000 in
set_option maxHeartbeats 6400000 in
theorem scrollShifts_any (S : SSays) (w : World) (f t h y : Int) (hy : -9223372036854775808 ≤ y ∧ y ≤ 9223372036854775807) :
    Calls Try.prog 4 #[.int .i64 f, .int .i64 t, .agg #[.int .i64 h, .int .i64 y]] w fun e w' => e = .returned (.bool true) ∧ AnyLater w w' := by
  obtain ⟨f1, f2⟩ := inZ_in f
  obtain ⟨t1, t2⟩ := inZ_in t
  obtain ⟨h1, h2⟩ := inZ_in h
  have HL := Lib.hid (fun w' => sclives_any S w')
  have HS := Lib.hid (fun w' => shift_any S f t h w')
  have hrow : ∀ c, shB f t h y = c → shB f t h y = c := fun _ e => e
  have hsh : shB f t h y = (decide (0 ≤ y ∧ y < inZ h) && !decide (0 ≤ y - (inZ f - inZ t) ∧ y - (inZ f - inZ t) < inZ h)) := rfl
  obtain ⟨F, hF⟩ : ∃ z, inZ f = z := ⟨_, rfl⟩
  obtain ⟨T, hT⟩ : ∃ z, inZ t = z := ⟨_, rfl⟩
  obtain ⟨H, hH⟩ : ∃ z, inZ h = z := ⟨_, rfl⟩
  rw [hF] at f1 f2
  rw [hT] at t1 t2
  rw [hH] at h1 h2
  rw [hF, hT, hH] at hsh
  have HD : Hid (inZ f - inZ t = F - T) := Lib.hid (by rw [hF, hT])
  obtain ⟨y1, y2⟩ := hy
  clear S hrow
  obtain ⟨D, hDD⟩ : ∃ D, F - T = D := ⟨_, rfl⟩
  rw [hDD] at hsh
  have d1 : -1073741824 ≤ D ∧ D ≤ 1073741824 := by omega
  obtain ⟨d1, d2⟩ := d1
  obtain ⟨c, hc⟩ : ∃ c, shB f t h y = c := ⟨_, rfl⟩
  have hcase : (y < 0 ∧ c = false) ∨ (0 ≤ y ∧ H ≤ y ∧ c = false) ∨ (0 ≤ y ∧ y < H ∧ y - D < 0 ∧ c = true) ∨ (0 ≤ y ∧ y < H ∧ 0 ≤ y - D ∧ H ≤ y - D ∧ c = true) ∨ (0 ≤ y ∧ y < H ∧ 0 ≤ y - D ∧ y - D < H ∧ c = false) := by
    rw [hc] at hsh
    by_cases k1 : 0 ≤ y ∧ y < H
    · rw [decide_eq_true k1, Bool.true_and] at hsh
      by_cases k2 : 0 ≤ y - D ∧ y - D < H
      · rw [decide_eq_true k2] at hsh
        exact .inr (.inr (.inr (.inr ⟨k1.1, k1.2, k2.1, k2.2, hsh⟩)))
      · rw [decide_eq_false k2] at hsh
        by_cases k3 : y - D < 0
        · exact .inr (.inr (.inl ⟨k1.1, k1.2, k3, hsh⟩))
        · exact .inr (.inr (.inr (.inl ⟨k1.1, k1.2, by omega, by omega, hsh⟩)))
    · rw [decide_eq_false k1, Bool.false_and] at hsh
      by_cases k3 : y < 0
      · exact .inl ⟨k3, hsh⟩
      · exact .inr (.inl ⟨by omega, by omega, hsh⟩)
  have HC := Lib.hid hc
  have HX := Lib.hid hDD
  clear hsh hc
  rcases hcase with ⟨c1, rfl⟩ | ⟨c1, c2, rfl⟩ | ⟨c1, c2, c3, rfl⟩ | ⟨c1, c2, c3, c4, rfl⟩ | ⟨c1, c2, c3, c4, rfl⟩
  case' inr.inr.inl => have c5 : y < D := by omega
  case' inr.inr.inr.inl => have c5 : D ≤ y := (by omega); have c6 : decide (y - D < H) = false := decide_eq_false (by omega)
  case' inr.inr.inr.inr => have c5 : D ≤ y := by omega
  all_goals
    go_enter Try.func4, Try.ntmps4
    go_wp2_with fail
    first | refine settle_wp (fun wS => AnyLater w wS ∧ wS.heap[w.heap.size]? = some (.cells #[.int .i64 h, .int .i64 y] 29)) ?_ ?_ | refine settle_calls (fun wS => AnyLater w wS ∧ wS.heap[w.heap.size]? = some (.cells #[.int .i64 h, .int .i64 y] 29)) ?_ ?_
    · refine ⟨?_, ?_⟩
      · repeat' (first | with_reducible assumption | with_reducible exact AnyLater.refl _ | with_reducible apply AnyLater.setCell | with_reducible apply AnyLater.later | with_reducible apply AnyLater.drewN | with_reducible apply AnyLater.drew | with_reducible apply AnyLater.alloc | ((try simp only [World.size_alloc, World.size_setCell, World.size_drew]); (try dsimp only); omega))
      · ((repeat (first | with_reducible assumption | ((with_reducible apply heap_new); (try simp only [World.size_alloc, World.size_setCell, World.size_drew, World.heap_drewN]); done) | ((with_reducible apply heap_new); (try simp only [World.size_alloc, World.size_setCell, World.size_drew, World.heap_drewN]); omega) | (with_reducible refine heap_old (by (try simp only [World.size_alloc, World.size_setCell, World.size_drew, World.heap_drewN]); omega) ?_) | (with_reducible refine heap_drew ?_) | (with_reducible refine heap_far (by omega) ?_) | (with_reducible apply heap_at))); all_goals rfl)
    rintro w1 ⟨b_w1, s0_w1⟩
    have a_w1 := b_w1
    have r0_w1 := own_row s0_w1
    have f0_w1 := own_free s0_w1
    have l0_w1 := own_lt s0_w1
    have z_w1 := b_w1.below.size
    apply wp_region_mem (7) [] (by kernel_rfl) (by kernel_rfl) (by simp)
    case hstab =>
      intro e he v x y hxy hv
      simp only [List.mem_cons, List.not_mem_nil, or_false] at he
    case hlex =>
      intro U
      have q0 := fun (v : Later (later U)) => own_row (any_own ⟨v, rfl⟩ (any_own ⟨U, rfl⟩ s0_w1))
      simp only [absFrom, absOp, idx, List.map_cons, List.map_nil, List.contains_cons, List.contains_nil, Nat.reduceBEq, Bool.or_false, Bool.false_or, Bool.true_or, Bool.or_true, Bool.false_eq_true, Nat.reduceLeDiff, Nat.reduceAdd, if_false, if_true]
      repeat (go_big_quiet_step ((go_at_call 14; exact in_later_same (rin_any _ _ _ (by assumption)))))
      exact wpQuiet_nil rfl
    case hown =>
      intro e he o ho
      simp only [List.mem_cons, List.not_mem_nil, or_false] at he
    case htail =>
      intro g u hst hne
      have b_w2 : AnyLater w1 (later u) := ⟨u, rfl⟩
      generalize later u = w2 at *
      clear u
      clear hst hne
      simp only [fillAll, Act.put, List.setIfInBounds_toArray, List.set_cons_zero, List.set_cons_succ, List.drop_succ_cons, List.drop_zero]
      have z_w2 := b_w2.below.size
      have a_w2 := a_w1.trans b_w2
      have s0_w2 := any_own b_w2 s0_w1
      have r0_w2 := own_row s0_w2
      have f0_w2 := own_free s0_w2
      have l0_w2 := own_lt s0_w2
      (try clear r0_w1); (try clear f0_w1)
      go_wp2_with fail
      refine (HS.out _).mono ?_
      rintro e w3 ⟨v, l, rfl, b_w3, hr, -, hl, hq⟩
      rw [HD.out, hDD]
      have HI := Lib.hid (in_any v l y w3 hr (by omega))
      rw [hq y, HC.out] at HI
      clear hr hl hq
      go_wp2_with (first | (go_at_call 14; refine (rin_any _ _ _ (by assumption)).mono ?_; rintro e w' ⟨rfl, rfl⟩) | (go_at_call 16; refine (HI.out).mono ?_; rintro e w' ⟨rfl, rfl⟩) | (go_at_call 13; refine (HL.out _).mono ?_; rintro e w4 ⟨rfl, b_w4⟩))
      go_ret
      exact ⟨rfl, (a_w2.trans b_w3).trans b_w4⟩

set_option maxRecDepth 100000 in
set_option maxHeartbeats 6400000 in
theorem scrollThumb_any (S : SSays) (w : World) (y t h : Int) :
    Calls Try.prog 6 #[.agg #[.int .i64 y, .int .i64 t, .int .i64 h]] w fun e w' => e = .returned (.bool true) ∧ AnyLater w w' := by
  obtain ⟨t1, t2⟩ := inZ_in t
  obtain ⟨h1, h2⟩ := inZ_in h
  have HL := Lib.hid (fun w' => sclives_any S w')
  have HT := Lib.hid (fun w' => sthumb_any y t h w')
  have gb := guard_band
  have nb := eqlBand
  by_cases k : inZ t ≤ inZ h
  · have e : thumbZ y t h = (0, inZ h) := by unfold thumbZ; rw [if_pos k]
    rw [e] at HT
    clear e S
    simp only at HT
    obtain ⟨T, hT⟩ : ∃ z, inZ t = z := ⟨_, rfl⟩
    obtain ⟨H, hH⟩ : ∃ z, inZ h = z := ⟨_, rfl⟩
    rw [hT] at t1 t2 k
    rw [hH] at h1 h2 k HT
    go_enter Try.func6, Try.ntmps6
    go_wp2_with fail
    first | refine settle_wp (fun wS => AnyLater w wS ∧ wS.heap[w.heap.size]? = some (.cells #[.int .i64 y, .int .i64 t, .int .i64 h] 23)) ?_ ?_ | refine settle_calls (fun wS => AnyLater w wS ∧ wS.heap[w.heap.size]? = some (.cells #[.int .i64 y, .int .i64 t, .int .i64 h] 23)) ?_ ?_
    · refine ⟨?_, ?_⟩
      · repeat' (first | with_reducible assumption | with_reducible exact AnyLater.refl _ | with_reducible apply AnyLater.setCell | with_reducible apply AnyLater.later | with_reducible apply AnyLater.drewN | with_reducible apply AnyLater.drew | with_reducible apply AnyLater.alloc | ((try simp only [World.size_alloc, World.size_setCell, World.size_drew]); (try dsimp only); omega))
      · ((repeat (first | with_reducible assumption | ((with_reducible apply heap_new); (try simp only [World.size_alloc, World.size_setCell, World.size_drew, World.heap_drewN]); done) | ((with_reducible apply heap_new); (try simp only [World.size_alloc, World.size_setCell, World.size_drew, World.heap_drewN]); omega) | (with_reducible refine heap_old (by (try simp only [World.size_alloc, World.size_setCell, World.size_drew, World.heap_drewN]); omega) ?_) | (with_reducible refine heap_drew ?_) | (with_reducible refine heap_far (by omega) ?_) | (with_reducible apply heap_at))); all_goals rfl)
    rintro w1 ⟨b_w1, s0_w1⟩
    have a_w1 := b_w1
    have r0_w1 := own_row s0_w1
    have f0_w1 := own_free s0_w1
    have l0_w1 := own_lt s0_w1
    have z_w1 := b_w1.below.size
    refine (HT.out _).mono ?_
    rintro e w2 ⟨rfl, b_w2⟩
    have z_w2 := b_w2.below.size
    have a_w2 := a_w1.trans b_w2
    have s0_w2 := any_own b_w2 s0_w1
    have r0_w2 := own_row s0_w2
    have f0_w2 := own_free s0_w2
    have l0_w2 := own_lt s0_w2
    (try clear r0_w1); (try clear f0_w1)
    go_wp2_with fail
    first | refine settle_wp (fun wS => AnyLater w2 wS ∧ wS.heap[w2.heap.size]? = some (.cells #[.int .i64 0, .int .i64 H] 39)) ?_ ?_ | refine settle_calls (fun wS => AnyLater w2 wS ∧ wS.heap[w2.heap.size]? = some (.cells #[.int .i64 0, .int .i64 H] 39)) ?_ ?_
    · refine ⟨?_, ?_⟩
      · repeat' (first | with_reducible assumption | with_reducible exact AnyLater.refl _ | with_reducible apply AnyLater.setCell | with_reducible apply AnyLater.later | with_reducible apply AnyLater.drewN | with_reducible apply AnyLater.drew | with_reducible apply AnyLater.alloc | ((try simp only [World.size_alloc, World.size_setCell, World.size_drew]); (try dsimp only); omega))
      · ((repeat (first | with_reducible assumption | ((with_reducible apply heap_new); (try simp only [World.size_alloc, World.size_setCell, World.size_drew, World.heap_drewN]); done) | ((with_reducible apply heap_new); (try simp only [World.size_alloc, World.size_setCell, World.size_drew, World.heap_drewN]); omega) | (with_reducible refine heap_old (by (try simp only [World.size_alloc, World.size_setCell, World.size_drew, World.heap_drewN]); omega) ?_) | (with_reducible refine heap_drew ?_) | (with_reducible refine heap_far (by omega) ?_) | (with_reducible apply heap_at))); all_goals rfl)
    rintro w3 ⟨b_w3, s1_w3⟩
    have a_w3 := a_w2.trans b_w3
    have s0_w3 := any_own b_w3 s0_w2
    have r0_w3 := own_row s0_w3
    have f0_w3 := own_free s0_w3
    have l0_w3 := own_lt s0_w3
    (try clear r0_w2); (try clear f0_w2)
    have r1_w3 := own_row s1_w3
    have f1_w3 := own_free s1_w3
    have l1_w3 := own_lt s1_w3
    have z_w3 := b_w3.below.size
    apply wp_region_mem (6) [] (by kernel_rfl) (by kernel_rfl) (by simp)
    case hstab =>
      intro e he v x y hxy hv
      simp only [List.mem_cons, List.not_mem_nil, or_false] at he
    case hlex =>
      intro U
      have q0 := fun (v : Later (later U)) => own_row (any_own ⟨v, rfl⟩ (any_own ⟨U, rfl⟩ s0_w3))
      have q1 := fun (v : Later (later U)) => own_row (any_own ⟨v, rfl⟩ (any_own ⟨U, rfl⟩ s1_w3))
      simp only [absFrom, absOp, idx, List.map_cons, List.map_nil, List.contains_cons, List.contains_nil, Nat.reduceBEq, Bool.or_false, Bool.false_or, Bool.true_or, Bool.or_true, Bool.false_eq_true, Nat.reduceLeDiff, Nat.reduceAdd, if_false, if_true]
      repeat (go_big_quiet_step ((go_at_call 14; exact in_later_same (rin_any _ _ _ (by assumption)))))
      exact wpQuiet_nil rfl
    case hown =>
      intro e he o ho
      simp only [List.mem_cons, List.not_mem_nil, or_false] at he
    case htail =>
      intro g u hst hne
      have b_w4 : AnyLater w3 (later u) := ⟨u, rfl⟩
      generalize later u = w4 at *
      clear u
      clear hst hne
      simp only [fillAll, Act.put, List.setIfInBounds_toArray, List.set_cons_zero, List.set_cons_succ, List.drop_succ_cons, List.drop_zero]
      have z_w4 := b_w4.below.size
      have a_w4 := a_w3.trans b_w4
      have s0_w4 := any_own b_w4 s0_w3
      have s1_w4 := any_own b_w4 s1_w3
      have r0_w4 := own_row s0_w4
      have f0_w4 := own_free s0_w4
      have l0_w4 := own_lt s0_w4
      have r1_w4 := own_row s1_w4
      have f1_w4 := own_free s1_w4
      have l1_w4 := own_lt s1_w4
      (try clear r0_w3); (try clear f0_w3)
      (try clear r1_w3); (try clear f1_w3)
      go_wp2_with (go_at_call 13; refine (HL.out _).mono ?_; rintro e w5 ⟨rfl, b_w5⟩)
      go_ret
      exact ⟨rfl, a_w4.trans b_w5⟩
  · have e : thumbZ y t h = (inZ h * stZ y t h / inZ t, inZ h * (stZ y t h + inZ h) / inZ t) := by unfold thumbZ; rw [if_neg k]
    have hs := thumbZ_in (y := y) k
    rw [e] at HT
    clear e S
    simp only at HT
    obtain ⟨T, hT⟩ : ∃ z, inZ t = z := ⟨_, rfl⟩
    obtain ⟨H, hH⟩ : ∃ z, inZ h = z := ⟨_, rfl⟩
    obtain ⟨s, hsz⟩ : ∃ z, stZ y t h = z := ⟨_, rfl⟩
    rw [hsz, hH, hT] at hs
    rw [hsz, hT, hH] at HT
    rw [hT] at t1 t2 k
    rw [hH] at h1 h2 k
    obtain ⟨s1, s2⟩ := hs
    have m1 := prod_in (q := H) (s := s) (by omega) (by omega)
    have m2 := prod_in (q := H) (s := s + H) (by omega) (by omega)
    have m3 := Int.mul_nonneg h1 s1
    have m4 : 0 ≤ H * (s + H) := Int.mul_nonneg h1 (by omega)
    have m9 : H * s ≤ H * (s + H) := Int.mul_le_mul_of_nonneg_left (by omega) h1
    have m10 : H * (s + H) ≤ H * T := Int.mul_le_mul_of_nonneg_left (by omega) h1
    have m11 : H * T / T = H := Int.mul_ediv_cancel _ (by omega)
    obtain ⟨M, hM⟩ : ∃ z, H * s = z := ⟨_, rfl⟩
    obtain ⟨M', hM'⟩ : ∃ z, H * (s + H) = z := ⟨_, rfl⟩
    rw [hM] at m1 m3 m9 HT
    rw [hM'] at m2 m4 m9 m10 HT
    have q1 : 0 ≤ M / T := Int.ediv_nonneg m3 (by omega)
    have q2 : M / T ≤ M' / T := Int.ediv_le_ediv (by omega) m9
    have q3 : M' / T ≤ H := by
      have := Int.ediv_le_ediv (c := T) (by omega) m10
      rwa [m11] at this
    clear m9 m10 m11
    obtain ⟨D, hD⟩ : ∃ z, M / T = z := ⟨_, rfl⟩
    obtain ⟨D', hD'⟩ : ∃ z, M' / T = z := ⟨_, rfl⟩
    rw [hD, hD'] at HT q2
    rw [hD] at q1
    rw [hD'] at q3
    obtain ⟨m5, m6⟩ := m1
    obtain ⟨m7, m8⟩ := m2
    have j1 : decide (0 ≤ D) = true := decide_eq_true q1
    have j2 : decide (D ≤ D') = true := decide_eq_true q2
    have j3 : decide (D' ≤ H) = true := decide_eq_true q3
    go_enter Try.func6, Try.ntmps6
    go_wp2_with fail
    first | refine settle_wp (fun wS => AnyLater w wS ∧ wS.heap[w.heap.size]? = some (.cells #[.int .i64 y, .int .i64 t, .int .i64 h] 23)) ?_ ?_ | refine settle_calls (fun wS => AnyLater w wS ∧ wS.heap[w.heap.size]? = some (.cells #[.int .i64 y, .int .i64 t, .int .i64 h] 23)) ?_ ?_
    · refine ⟨?_, ?_⟩
      · repeat' (first | with_reducible assumption | with_reducible exact AnyLater.refl _ | with_reducible apply AnyLater.setCell | with_reducible apply AnyLater.later | with_reducible apply AnyLater.drewN | with_reducible apply AnyLater.drew | with_reducible apply AnyLater.alloc | ((try simp only [World.size_alloc, World.size_setCell, World.size_drew]); (try dsimp only); omega))
      · ((repeat (first | with_reducible assumption | ((with_reducible apply heap_new); (try simp only [World.size_alloc, World.size_setCell, World.size_drew, World.heap_drewN]); done) | ((with_reducible apply heap_new); (try simp only [World.size_alloc, World.size_setCell, World.size_drew, World.heap_drewN]); omega) | (with_reducible refine heap_old (by (try simp only [World.size_alloc, World.size_setCell, World.size_drew, World.heap_drewN]); omega) ?_) | (with_reducible refine heap_drew ?_) | (with_reducible refine heap_far (by omega) ?_) | (with_reducible apply heap_at))); all_goals rfl)
    rintro w1 ⟨b_w1, s0_w1⟩
    have a_w1 := b_w1
    have r0_w1 := own_row s0_w1
    have f0_w1 := own_free s0_w1
    have l0_w1 := own_lt s0_w1
    have z_w1 := b_w1.below.size
    refine (HT.out _).mono ?_
    rintro e w2 ⟨rfl, b_w2⟩
    have z_w2 := b_w2.below.size
    have a_w2 := a_w1.trans b_w2
    have s0_w2 := any_own b_w2 s0_w1
    have r0_w2 := own_row s0_w2
    have f0_w2 := own_free s0_w2
    have l0_w2 := own_lt s0_w2
    (try clear r0_w1); (try clear f0_w1)
    go_wp2_with fail
    first | refine settle_wp (fun wS => AnyLater w2 wS ∧ wS.heap[w2.heap.size]? = some (.cells #[.int .i64 D, .int .i64 D'] 39)) ?_ ?_ | refine settle_calls (fun wS => AnyLater w2 wS ∧ wS.heap[w2.heap.size]? = some (.cells #[.int .i64 D, .int .i64 D'] 39)) ?_ ?_
    · refine ⟨?_, ?_⟩
      · repeat' (first | with_reducible assumption | with_reducible exact AnyLater.refl _ | with_reducible apply AnyLater.setCell | with_reducible apply AnyLater.later | with_reducible apply AnyLater.drewN | with_reducible apply AnyLater.drew | with_reducible apply AnyLater.alloc | ((try simp only [World.size_alloc, World.size_setCell, World.size_drew]); (try dsimp only); omega))
      · ((repeat (first | with_reducible assumption | ((with_reducible apply heap_new); (try simp only [World.size_alloc, World.size_setCell, World.size_drew, World.heap_drewN]); done) | ((with_reducible apply heap_new); (try simp only [World.size_alloc, World.size_setCell, World.size_drew, World.heap_drewN]); omega) | (with_reducible refine heap_old (by (try simp only [World.size_alloc, World.size_setCell, World.size_drew, World.heap_drewN]); omega) ?_) | (with_reducible refine heap_drew ?_) | (with_reducible refine heap_far (by omega) ?_) | (with_reducible apply heap_at))); all_goals rfl)
    rintro w3 ⟨b_w3, s1_w3⟩
    have a_w3 := a_w2.trans b_w3
    have s0_w3 := any_own b_w3 s0_w2
    have r0_w3 := own_row s0_w3
    have f0_w3 := own_free s0_w3
    have l0_w3 := own_lt s0_w3
    (try clear r0_w2); (try clear f0_w2)
    have r1_w3 := own_row s1_w3
    have f1_w3 := own_free s1_w3
    have l1_w3 := own_lt s1_w3
    have z_w3 := b_w3.below.size
    apply wp_region_mem (6) [] (by kernel_rfl) (by kernel_rfl) (by simp)
    case hstab =>
      intro e he v x y hxy hv
      simp only [List.mem_cons, List.not_mem_nil, or_false] at he
    case hlex =>
      intro U
      have q0 := fun (v : Later (later U)) => own_row (any_own ⟨v, rfl⟩ (any_own ⟨U, rfl⟩ s0_w3))
      have q1 := fun (v : Later (later U)) => own_row (any_own ⟨v, rfl⟩ (any_own ⟨U, rfl⟩ s1_w3))
      simp only [absFrom, absOp, idx, List.map_cons, List.map_nil, List.contains_cons, List.contains_nil, Nat.reduceBEq, Bool.or_false, Bool.false_or, Bool.true_or, Bool.or_true, Bool.false_eq_true, Nat.reduceLeDiff, Nat.reduceAdd, if_false, if_true]
      repeat (go_big_quiet_step ((go_at_call 14; exact in_later_same (rin_any _ _ _ (by assumption)))))
      exact wpQuiet_nil rfl
    case hown =>
      intro e he o ho
      simp only [List.mem_cons, List.not_mem_nil, or_false] at he
    case htail =>
      intro g u hst hne
      have b_w4 : AnyLater w3 (later u) := ⟨u, rfl⟩
      generalize later u = w4 at *
      clear u
      clear hst hne
      simp only [fillAll, Act.put, List.setIfInBounds_toArray, List.set_cons_zero, List.set_cons_succ, List.drop_succ_cons, List.drop_zero]
      have z_w4 := b_w4.below.size
      have a_w4 := a_w3.trans b_w4
      have s0_w4 := any_own b_w4 s0_w3
      have s1_w4 := any_own b_w4 s1_w3
      have r0_w4 := own_row s0_w4
      have f0_w4 := own_free s0_w4
      have l0_w4 := own_lt s0_w4
      have r1_w4 := own_row s1_w4
      have f1_w4 := own_free s1_w4
      have l1_w4 := own_lt s1_w4
      (try clear r0_w3); (try clear f0_w3)
      (try clear r1_w3); (try clear f1_w3)
      go_wp2_with (go_at_call 10; refine (rclamp_any _ _ _ _ _ (by assumption)).mono ?_; rintro e w' ⟨rfl, rfl⟩)
      apply wp_region_mem (31) [] (by kernel_rfl) (by kernel_rfl) (by simp)
      case hstab =>
        intro e he v x y hxy hv
        simp only [List.mem_cons, List.not_mem_nil, or_false] at he
      case hlex =>
        intro U
        have q0 := fun (v : Later (later U)) => own_row (any_own ⟨v, rfl⟩ (any_own ⟨U, rfl⟩ s0_w4))
        have q1 := fun (v : Later (later U)) => own_row (any_own ⟨v, rfl⟩ (any_own ⟨U, rfl⟩ s1_w4))
        simp only [absFrom, absOp, idx, List.map_cons, List.map_nil, List.contains_cons, List.contains_nil, Nat.reduceBEq, Bool.or_false, Bool.false_or, Bool.true_or, Bool.or_true, Bool.false_eq_true, Nat.reduceLeDiff, Nat.reduceAdd, if_false, if_true]
        repeat (go_big_quiet_step ((go_at_call 13; exact in_later (HL.out _))))
        exact wpQuiet_nil rfl
      case hown =>
        intro e he o ho
        simp only [List.mem_cons, List.not_mem_nil, or_false] at he
      case htail =>
        intro g u hst hne
        have b_w5 : AnyLater w4 (later u) := ⟨u, rfl⟩
        generalize later u = w5 at *
        clear u
        clear hst hne
        simp only [fillAll, Act.put, List.setIfInBounds_toArray, List.set_cons_zero, List.set_cons_succ, List.drop_succ_cons, List.drop_zero]
        have z_w5 := b_w5.below.size
        have a_w5 := a_w4.trans b_w5
        have s0_w5 := any_own b_w5 s0_w4
        have s1_w5 := any_own b_w5 s1_w4
        have r0_w5 := own_row s0_w5
        have f0_w5 := own_free s0_w5
        have l0_w5 := own_lt s0_w5
        have r1_w5 := own_row s1_w5
        have f1_w5 := own_free s1_w5
        have l1_w5 := own_lt s1_w5
        (try clear r0_w4); (try clear f0_w4)
        (try clear r1_w4); (try clear f1_w4)
        go_wp2_with fail
        go_ret
        exact ⟨rfl, by repeat' (first | with_reducible assumption | with_reducible exact AnyLater.refl _ | with_reducible apply AnyLater.setCell | with_reducible apply AnyLater.later | with_reducible apply AnyLater.drewN | with_reducible apply AnyLater.drew | with_reducible apply AnyLater.alloc | ((try simp only [World.size_alloc, World.size_setCell, World.size_drew]); (try dsimp only); omega))⟩
end Go.Proofs.Ytgfmfkjebnllnaa
