/- mark: lives; MarkMoves and MarkEdits, walked. -/
import Derived.Test.YtibeoohjdinceaaMrkP
import Derived.Laws.StructEq
namespace Go.Proofs.Ytibeoohjdinceaa
set_option linter.unusedSimpArgs false
set_option linter.unusedVariables false
set_option linter.unusedSectionVars false
open Go.RowKit

set_option maxRecDepth 100000 in
theorem mlives_any (w : World) : Calls Try.prog 11 #[] w fun e w' => e = .returned (.bool true) ∧ AnyLater w w' := by
  go_enter Try.func11, Try.ntmps11
  go_wp2_with fail
  first | refine settle_wp (fun wS => AnyLater w wS ∧ wS.heap[w.heap.size]? = some (.cells #[.int .i64 5, .int .i64 0, .int .i64 3] 23)) ?_ ?_ | refine settle_calls (fun wS => AnyLater w wS ∧ wS.heap[w.heap.size]? = some (.cells #[.int .i64 5, .int .i64 0, .int .i64 3] 23)) ?_ ?_
  · refine ⟨?_, ?_⟩
    · repeat' (first | with_reducible assumption | with_reducible exact AnyLater.refl _ | with_reducible apply AnyLater.setCell | with_reducible apply AnyLater.later | with_reducible apply AnyLater.drewN | with_reducible apply AnyLater.drew | with_reducible apply AnyLater.alloc | ((try simp only [World.size_alloc, World.size_setCell, World.size_drew]); (try dsimp only); omega))
    · ((repeat (first | with_reducible assumption | ((with_reducible apply heap_new); (try simp only [World.size_alloc, World.size_setCell, World.size_drew, World.heap_drewN]); done) | ((with_reducible apply heap_new); (try simp only [World.size_alloc, World.size_setCell, World.size_drew, World.heap_drewN]); omega) | (with_reducible refine heap_old (by (try simp only [World.size_alloc, World.size_setCell, World.size_drew, World.heap_drewN]); omega) ?_) | (with_reducible refine heap_drew ?_) | (with_reducible refine heap_far (by omega) ?_) | (with_reducible apply heap_at))); all_goals rfl)
  rintro w1 ⟨b_w1, s0_w1⟩
  have a_w1 := b_w1
  have r0_w1 := own_row s0_w1
  have f0_w1 := own_free s0_w1
  have l0_w1 := own_lt s0_w1
  have z_w1 := b_w1.below.size
  refine (mright_any 5 5 0 3 _ 8 (by decide)).mono ?_
  rintro e w2 ⟨rfl, b_w2⟩
  have z_w2 := b_w2.below.size
  have a_w2 := a_w1.trans b_w2
  have s0_w2 := any_own b_w2 s0_w1
  have r0_w2 := own_row s0_w2
  have f0_w2 := own_free s0_w2
  have l0_w2 := own_lt s0_w2
  (try clear r0_w1); (try clear f0_w1)
  go_wp2_with fail
  refine (mleft_any 5 5 0 3 _ 5 (by decide)).mono ?_
  rintro e w3 ⟨rfl, b_w3⟩
  have z_w3 := b_w3.below.size
  have a_w3 := a_w2.trans b_w3
  have s0_w3 := any_own b_w3 s0_w2
  have r0_w3 := own_row s0_w3
  have f0_w3 := own_free s0_w3
  have l0_w3 := own_lt s0_w3
  (try clear r0_w2); (try clear f0_w2)
  go_wp2_with fail
  refine (mgood_any 5 0 3 5 _ true (by decide)).mono ?_
  rintro e w4 ⟨rfl, b_w4⟩
  have z_w4 := b_w4.below.size
  have a_w4 := a_w3.trans b_w4
  have s0_w4 := any_own b_w4 s0_w3
  have r0_w4 := own_row s0_w4
  have f0_w4 := own_free s0_w4
  have l0_w4 := own_lt s0_w4
  (try clear r0_w3); (try clear f0_w3)
  go_wp2_with fail
  go_ret
  exact ⟨rfl, a_w4⟩

set_option maxRecDepth 100000 in
set_option maxHeartbeats 1600000 in
theorem markMoves_any (W : World) (a0 a1_0 a1_1 a1_2 : Int) : Calls Try.prog 3 #[.int .i64 a0, .agg #[.int .i64 a1_0, .int .i64 a1_1, .int .i64 a1_2]] W fun e W' => e = .returned (.bool true) ∧ AnyLater W W' := by
  obtain ⟨x, hx⟩ : ∃ x, rightZ a0 a1_0 a1_1 a1_2 = x := ⟨_, rfl⟩
  obtain ⟨y, hy⟩ : ∃ y, leftZ a0 a1_0 a1_1 a1_2 = y := ⟨_, rfl⟩
  generalize W = w at *
  have e1 : (x == x) = true := by simp
  have e2 : (y == y) = true := by simp
  go_enter Try.func3, Try.ntmps3
  go_wp2_with fail
  first | refine settle_wp (fun wS => AnyLater w wS ∧ wS.heap[w.heap.size]? = some (.cells #[.int .i64 a1_0, .int .i64 a1_1, .int .i64 a1_2] 23)) ?_ ?_ | refine settle_calls (fun wS => AnyLater w wS ∧ wS.heap[w.heap.size]? = some (.cells #[.int .i64 a1_0, .int .i64 a1_1, .int .i64 a1_2] 23)) ?_ ?_
  · refine ⟨?_, ?_⟩
    · repeat' (first | with_reducible assumption | with_reducible exact AnyLater.refl _ | with_reducible apply AnyLater.setCell | with_reducible apply AnyLater.later | with_reducible apply AnyLater.drewN | with_reducible apply AnyLater.drew | with_reducible apply AnyLater.alloc | ((try simp only [World.size_alloc, World.size_setCell, World.size_drew]); (try dsimp only); omega))
    · ((repeat (first | with_reducible assumption | ((with_reducible apply heap_new); (try simp only [World.size_alloc, World.size_setCell, World.size_drew, World.heap_drewN]); done) | ((with_reducible apply heap_new); (try simp only [World.size_alloc, World.size_setCell, World.size_drew, World.heap_drewN]); omega) | (with_reducible refine heap_old (by (try simp only [World.size_alloc, World.size_setCell, World.size_drew, World.heap_drewN]); omega) ?_) | (with_reducible refine heap_drew ?_) | (with_reducible refine heap_far (by omega) ?_) | (with_reducible apply heap_at))); all_goals rfl)
  rintro w1 ⟨b_w1, s0_w1⟩
  have a_w1 := b_w1
  have r0_w1 := own_row s0_w1
  have f0_w1 := own_free s0_w1
  have l0_w1 := own_lt s0_w1
  have z_w1 := b_w1.below.size
  apply wp_region_mem (19) [] (by kernel_rfl) (by kernel_rfl) (by simp)
  case hstab =>
    intro e he v x y hxy hv
    simp only [List.mem_cons, List.not_mem_nil, or_false] at he
  case hlex =>
    intro U
    have q0 := fun (v : Later (later U)) => own_row (any_own ⟨v, rfl⟩ (any_own ⟨U, rfl⟩ s0_w1))
    simp only [absFrom, absOp, idx, List.map_cons, List.map_nil, List.contains_cons, List.contains_nil, Nat.reduceBEq, Bool.or_false, Bool.false_or, Bool.true_or, Bool.or_true, Bool.false_eq_true, Nat.reduceLeDiff, Nat.reduceAdd, if_false, if_true]
    repeat (go_big_quiet_step (first | (go_at_call 7; exact in_later (mright_any _ _ _ _ _ _ (by assumption))) | (go_at_call 8; exact in_later (xright_any _ _ _ _ _ _ (by assumption))) | (go_at_call 9; exact in_later (mleft_any _ _ _ _ _ _ (by assumption))) | (go_at_call 10; exact in_later (xleft_any _ _ _ _ _ _ (by assumption))) | (go_at_call 11; exact in_later (mlives_any _))))
    exact wpQuiet_nil rfl
  case hown =>
    intro e he o ho
    simp only [List.mem_cons, List.not_mem_nil, or_false] at he
  case htail =>
    intro g u hst hne
    have b_w2 : AnyLater w1 (later u) := ⟨u, rfl⟩
    generalize later u = w2 at *
    clear u
    clear hst hne
    simp only [fillAll, Act.put, List.setIfInBounds_toArray, List.set_cons_zero, List.set_cons_succ, List.drop_succ_cons, List.drop_zero]
    have z_w2 := b_w2.below.size
    have a_w2 := a_w1.trans b_w2
    have s0_w2 := any_own b_w2 s0_w1
    have r0_w2 := own_row s0_w2
    have f0_w2 := own_free s0_w2
    have l0_w2 := own_lt s0_w2
    (try clear r0_w1); (try clear f0_w1)
    go_wp2_with fail
    go_ret
    exact ⟨rfl, a_w2⟩

/-! ### MarkEdits -/
theorem stood_edit : Try.prog.stoodInHeld 23 = false := by kernel_rfl
theorem fields_edit : Try.prog.underlying 23 = some (.struct (Try.prog.fieldsOf 23)) := by kernel_rfl
theorem guard_edit : Try.prog.eqGuardType Try.prog.depth 23 = false := by kernel_rfl
theorem eqlEdit (a b c : Int) (w : World) : (binOp .eql 23 (.agg #[.int .i64 a, .int .i64 b, .int .i64 c]) (.agg #[.int .i64 a, .int .i64 b, .int .i64 c])).run Try.prog w = .ok (.bool true) w := by
  rw [run_eql_struct, run_equalIn_agg w 9999 _ _ _ fields_edit stood_edit]
  simp [go_sem]
theorem goodE_back {a o i n : Int} (h : goodE a o i n = true) : goodE a i o (n - o + i) = true := by
  have := goodE_in h
  exact decide_eq_true (by omega)
set_option maxRecDepth 100000 in
set_option maxHeartbeats 1600000 in
theorem markEdits_any (W : World) (a0_0 a0_1 a0_2 a1 : Int) : Calls Try.prog 4 #[.agg #[.int .i64 a0_0, .int .i64 a0_1, .int .i64 a0_2], .int .i64 a1] W fun e W' => e = .returned (.bool true) ∧ AnyLater W W' := by
  generalize W = w at *
  generalize a0_0 = a
  generalize a0_1 = o
  generalize a0_2 = i
  generalize a1 = n
  have gb := guard_edit
  have nb := eqlEdit
  rcases hg : goodE a o i n
  · have HL : Hid ((if goodE a o i n then n - o + i else n) = n) := Lib.hid (by rw [hg]; rfl)
    have HG := Lib.hid hg
    clear hg
    go_enter Try.func4, Try.ntmps4
    go_wp2_with fail
    first | refine settle_wp (fun wS => AnyLater w wS ∧ wS.heap[w.heap.size]? = some (.cells #[.int .i64 a, .int .i64 o, .int .i64 i] 23)) ?_ ?_ | refine settle_calls (fun wS => AnyLater w wS ∧ wS.heap[w.heap.size]? = some (.cells #[.int .i64 a, .int .i64 o, .int .i64 i] 23)) ?_ ?_
    · refine ⟨?_, ?_⟩
      · repeat' (first | with_reducible assumption | with_reducible exact AnyLater.refl _ | with_reducible apply AnyLater.setCell | with_reducible apply AnyLater.later | with_reducible apply AnyLater.drewN | with_reducible apply AnyLater.drew | with_reducible apply AnyLater.alloc | ((try simp only [World.size_alloc, World.size_setCell, World.size_drew]); (try dsimp only); omega))
      · ((repeat (first | with_reducible assumption | ((with_reducible apply heap_new); (try simp only [World.size_alloc, World.size_setCell, World.size_drew, World.heap_drewN]); done) | ((with_reducible apply heap_new); (try simp only [World.size_alloc, World.size_setCell, World.size_drew, World.heap_drewN]); omega) | (with_reducible refine heap_old (by (try simp only [World.size_alloc, World.size_setCell, World.size_drew, World.heap_drewN]); omega) ?_) | (with_reducible refine heap_drew ?_) | (with_reducible refine heap_far (by omega) ?_) | (with_reducible apply heap_at))); all_goals rfl)
    rintro w1 ⟨b_w1, s0_w1⟩
    have a_w1 := b_w1
    have r0_w1 := own_row s0_w1
    have f0_w1 := own_free s0_w1
    have l0_w1 := own_lt s0_w1
    have z_w1 := b_w1.below.size
    refine (xgood_any a o i n _ false HG.out).mono ?_
    rintro e w2 ⟨rfl, b_w2⟩
    have z_w2 := b_w2.below.size
    have a_w2 := a_w1.trans b_w2
    have s0_w2 := any_own b_w2 s0_w1
    have r0_w2 := own_row s0_w2
    have f0_w2 := own_free s0_w2
    have l0_w2 := own_lt s0_w2
    (try clear r0_w1); (try clear f0_w1)
    go_wp2_with fail
    refine (mback_any a o i _).mono ?_
    rintro e w3 ⟨rfl, b_w3⟩
    have z_w3 := b_w3.below.size
    have a_w3 := a_w2.trans b_w3
    have s0_w3 := any_own b_w3 s0_w2
    have r0_w3 := own_row s0_w3
    have f0_w3 := own_free s0_w3
    have l0_w3 := own_lt s0_w3
    (try clear r0_w2); (try clear f0_w2)
    go_wp2_with fail
    first | refine settle_wp (fun wS => AnyLater w3 wS ∧ wS.heap[w3.heap.size]? = some (.cells #[.int .i64 a, .int .i64 i, .int .i64 o] 23)) ?_ ?_ | refine settle_calls (fun wS => AnyLater w3 wS ∧ wS.heap[w3.heap.size]? = some (.cells #[.int .i64 a, .int .i64 i, .int .i64 o] 23)) ?_ ?_
    · refine ⟨?_, ?_⟩
      · repeat' (first | with_reducible assumption | with_reducible exact AnyLater.refl _ | with_reducible apply AnyLater.setCell | with_reducible apply AnyLater.later | with_reducible apply AnyLater.drewN | with_reducible apply AnyLater.drew | with_reducible apply AnyLater.alloc | ((try simp only [World.size_alloc, World.size_setCell, World.size_drew]); (try dsimp only); omega))
      · ((repeat (first | with_reducible assumption | ((with_reducible apply heap_new); (try simp only [World.size_alloc, World.size_setCell, World.size_drew, World.heap_drewN]); done) | ((with_reducible apply heap_new); (try simp only [World.size_alloc, World.size_setCell, World.size_drew, World.heap_drewN]); omega) | (with_reducible refine heap_old (by (try simp only [World.size_alloc, World.size_setCell, World.size_drew, World.heap_drewN]); omega) ?_) | (with_reducible refine heap_drew ?_) | (with_reducible refine heap_far (by omega) ?_) | (with_reducible apply heap_at))); all_goals rfl)
    rintro w4 ⟨b_w4, s1_w4⟩
    have a_w4 := a_w3.trans b_w4
    have s0_w4 := any_own b_w4 s0_w3
    have r0_w4 := own_row s0_w4
    have f0_w4 := own_free s0_w4
    have l0_w4 := own_lt s0_w4
    (try clear r0_w3); (try clear f0_w3)
    have r1_w4 := own_row s1_w4
    have f1_w4 := own_free s1_w4
    have l1_w4 := own_lt s1_w4
    have z_w4 := b_w4.below.size
    refine (mgood_any a o i n _ false HG.out).mono ?_
    rintro e w5 ⟨rfl, b_w5⟩
    have z_w5 := b_w5.below.size
    have a_w5 := a_w4.trans b_w5
    have s0_w5 := any_own b_w5 s0_w4
    have s1_w5 := any_own b_w5 s1_w4
    have r0_w5 := own_row s0_w5
    have f0_w5 := own_free s0_w5
    have l0_w5 := own_lt s0_w5
    have r1_w5 := own_row s1_w5
    have f1_w5 := own_free s1_w5
    have l1_w5 := own_lt s1_w5
    (try clear r0_w4); (try clear f0_w4)
    (try clear r1_w4); (try clear f1_w4)
    go_wp2_with fail
    refine (mlen_any n a o i _ n HL.out).mono ?_
    rintro e w6 ⟨rfl, b_w6⟩
    have z_w6 := b_w6.below.size
    have a_w6 := a_w5.trans b_w6
    have s0_w6 := any_own b_w6 s0_w5
    have s1_w6 := any_own b_w6 s1_w5
    have r0_w6 := own_row s0_w6
    have f0_w6 := own_free s0_w6
    have l0_w6 := own_lt s0_w6
    have r1_w6 := own_row s1_w6
    have f1_w6 := own_free s1_w6
    have l1_w6 := own_lt s1_w6
    (try clear r0_w5); (try clear f0_w5)
    (try clear r1_w5); (try clear f1_w5)
    go_wp2_with fail
    refine (mlives_any _).mono ?_
    rintro e w7 ⟨rfl, b_w7⟩
    have z_w7 := b_w7.below.size
    have a_w7 := a_w6.trans b_w7
    have s0_w7 := any_own b_w7 s0_w6
    have s1_w7 := any_own b_w7 s1_w6
    have r0_w7 := own_row s0_w7
    have f0_w7 := own_free s0_w7
    have l0_w7 := own_lt s0_w7
    have r1_w7 := own_row s1_w7
    have f1_w7 := own_free s1_w7
    have l1_w7 := own_lt s1_w7
    (try clear r0_w6); (try clear f0_w6)
    (try clear r1_w6); (try clear f1_w6)
    go_wp2_with fail
    go_ret
    exact ⟨rfl, a_w7⟩
  · have hb := goodE_in hg
    have HL : Hid ((if goodE a o i n then n - o + i else n) = n - o + i) := Lib.hid (by rw [hg]; rfl)
    have HG2 := Lib.hid (goodE_back hg)
    have HL2 : Hid ((if goodE a i o (n - o + i) then n - o + i - i + o else n - o + i) = n) := Lib.hid (by rw [goodE_back hg, if_pos rfl]; omega)
    have HG := Lib.hid hg
    clear hg
    go_enter Try.func4, Try.ntmps4
    go_wp2_with fail
    first | refine settle_wp (fun wS => AnyLater w wS ∧ wS.heap[w.heap.size]? = some (.cells #[.int .i64 a, .int .i64 o, .int .i64 i] 23)) ?_ ?_ | refine settle_calls (fun wS => AnyLater w wS ∧ wS.heap[w.heap.size]? = some (.cells #[.int .i64 a, .int .i64 o, .int .i64 i] 23)) ?_ ?_
    · refine ⟨?_, ?_⟩
      · repeat' (first | with_reducible assumption | with_reducible exact AnyLater.refl _ | with_reducible apply AnyLater.setCell | with_reducible apply AnyLater.later | with_reducible apply AnyLater.drewN | with_reducible apply AnyLater.drew | with_reducible apply AnyLater.alloc | ((try simp only [World.size_alloc, World.size_setCell, World.size_drew]); (try dsimp only); omega))
      · ((repeat (first | with_reducible assumption | ((with_reducible apply heap_new); (try simp only [World.size_alloc, World.size_setCell, World.size_drew, World.heap_drewN]); done) | ((with_reducible apply heap_new); (try simp only [World.size_alloc, World.size_setCell, World.size_drew, World.heap_drewN]); omega) | (with_reducible refine heap_old (by (try simp only [World.size_alloc, World.size_setCell, World.size_drew, World.heap_drewN]); omega) ?_) | (with_reducible refine heap_drew ?_) | (with_reducible refine heap_far (by omega) ?_) | (with_reducible apply heap_at))); all_goals rfl)
    rintro w1 ⟨b_w1, s0_w1⟩
    have a_w1 := b_w1
    have r0_w1 := own_row s0_w1
    have f0_w1 := own_free s0_w1
    have l0_w1 := own_lt s0_w1
    have z_w1 := b_w1.below.size
    refine (xgood_any a o i n _ true HG.out).mono ?_
    rintro e w2 ⟨rfl, b_w2⟩
    have z_w2 := b_w2.below.size
    have a_w2 := a_w1.trans b_w2
    have s0_w2 := any_own b_w2 s0_w1
    have r0_w2 := own_row s0_w2
    have f0_w2 := own_free s0_w2
    have l0_w2 := own_lt s0_w2
    (try clear r0_w1); (try clear f0_w1)
    go_wp2_with fail
    refine (mback_any a o i _).mono ?_
    rintro e w3 ⟨rfl, b_w3⟩
    have z_w3 := b_w3.below.size
    have a_w3 := a_w2.trans b_w3
    have s0_w3 := any_own b_w3 s0_w2
    have r0_w3 := own_row s0_w3
    have f0_w3 := own_free s0_w3
    have l0_w3 := own_lt s0_w3
    (try clear r0_w2); (try clear f0_w2)
    go_wp2_with fail
    first | refine settle_wp (fun wS => AnyLater w3 wS ∧ wS.heap[w3.heap.size]? = some (.cells #[.int .i64 a, .int .i64 i, .int .i64 o] 23)) ?_ ?_ | refine settle_calls (fun wS => AnyLater w3 wS ∧ wS.heap[w3.heap.size]? = some (.cells #[.int .i64 a, .int .i64 i, .int .i64 o] 23)) ?_ ?_
    · refine ⟨?_, ?_⟩
      · repeat' (first | with_reducible assumption | with_reducible exact AnyLater.refl _ | with_reducible apply AnyLater.setCell | with_reducible apply AnyLater.later | with_reducible apply AnyLater.drewN | with_reducible apply AnyLater.drew | with_reducible apply AnyLater.alloc | ((try simp only [World.size_alloc, World.size_setCell, World.size_drew]); (try dsimp only); omega))
      · ((repeat (first | with_reducible assumption | ((with_reducible apply heap_new); (try simp only [World.size_alloc, World.size_setCell, World.size_drew, World.heap_drewN]); done) | ((with_reducible apply heap_new); (try simp only [World.size_alloc, World.size_setCell, World.size_drew, World.heap_drewN]); omega) | (with_reducible refine heap_old (by (try simp only [World.size_alloc, World.size_setCell, World.size_drew, World.heap_drewN]); omega) ?_) | (with_reducible refine heap_drew ?_) | (with_reducible refine heap_far (by omega) ?_) | (with_reducible apply heap_at))); all_goals rfl)
    rintro w4 ⟨b_w4, s1_w4⟩
    have a_w4 := a_w3.trans b_w4
    have s0_w4 := any_own b_w4 s0_w3
    have r0_w4 := own_row s0_w4
    have f0_w4 := own_free s0_w4
    have l0_w4 := own_lt s0_w4
    (try clear r0_w3); (try clear f0_w3)
    have r1_w4 := own_row s1_w4
    have f1_w4 := own_free s1_w4
    have l1_w4 := own_lt s1_w4
    have z_w4 := b_w4.below.size
    refine (mgood_any a o i n _ true HG.out).mono ?_
    rintro e w5 ⟨rfl, b_w5⟩
    have z_w5 := b_w5.below.size
    have a_w5 := a_w4.trans b_w5
    have s0_w5 := any_own b_w5 s0_w4
    have s1_w5 := any_own b_w5 s1_w4
    have r0_w5 := own_row s0_w5
    have f0_w5 := own_free s0_w5
    have l0_w5 := own_lt s0_w5
    have r1_w5 := own_row s1_w5
    have f1_w5 := own_free s1_w5
    have l1_w5 := own_lt s1_w5
    (try clear r0_w4); (try clear f0_w4)
    (try clear r1_w4); (try clear f1_w4)
    go_wp2_with fail
    refine (mlen_any n a o i _ (n - o + i) HL.out).mono ?_
    rintro e w6 ⟨rfl, b_w6⟩
    have z_w6 := b_w6.below.size
    have a_w6 := a_w5.trans b_w6
    have s0_w6 := any_own b_w6 s0_w5
    have s1_w6 := any_own b_w6 s1_w5
    have r0_w6 := own_row s0_w6
    have f0_w6 := own_free s0_w6
    have l0_w6 := own_lt s0_w6
    have r1_w6 := own_row s1_w6
    have f1_w6 := own_free s1_w6
    have l1_w6 := own_lt s1_w6
    (try clear r0_w5); (try clear f0_w5)
    (try clear r1_w5); (try clear f1_w5)
    go_wp2_with fail
    refine (mgood_any a i o (n - o + i) _ true HG2.out).mono ?_
    rintro e w7 ⟨rfl, b_w7⟩
    have z_w7 := b_w7.below.size
    have a_w7 := a_w6.trans b_w7
    have s0_w7 := any_own b_w7 s0_w6
    have s1_w7 := any_own b_w7 s1_w6
    have r0_w7 := own_row s0_w7
    have f0_w7 := own_free s0_w7
    have l0_w7 := own_lt s0_w7
    have r1_w7 := own_row s1_w7
    have f1_w7 := own_free s1_w7
    have l1_w7 := own_lt s1_w7
    (try clear r0_w6); (try clear f0_w6)
    (try clear r1_w6); (try clear f1_w6)
    go_wp2_with fail
    refine (mlen_any (n - o + i) a i o _ n HL2.out).mono ?_
    rintro e w8 ⟨rfl, b_w8⟩
    have z_w8 := b_w8.below.size
    have a_w8 := a_w7.trans b_w8
    have s0_w8 := any_own b_w8 s0_w7
    have s1_w8 := any_own b_w8 s1_w7
    have r0_w8 := own_row s0_w8
    have f0_w8 := own_free s0_w8
    have l0_w8 := own_lt s0_w8
    have r1_w8 := own_row s1_w8
    have f1_w8 := own_free s1_w8
    have l1_w8 := own_lt s1_w8
    (try clear r0_w7); (try clear f0_w7)
    (try clear r1_w7); (try clear f1_w7)
    go_wp2_with fail
    refine (mlives_any _).mono ?_
    rintro e w9 ⟨rfl, b_w9⟩
    have z_w9 := b_w9.below.size
    have a_w9 := a_w8.trans b_w9
    have s0_w9 := any_own b_w9 s0_w8
    have s1_w9 := any_own b_w9 s1_w8
    have r0_w9 := own_row s0_w9
    have f0_w9 := own_free s0_w9
    have l0_w9 := own_lt s0_w9
    have r1_w9 := own_row s1_w9
    have f1_w9 := own_free s1_w9
    have l1_w9 := own_lt s1_w9
    (try clear r0_w8); (try clear f0_w8)
    (try clear r1_w8); (try clear f1_w8)
    go_wp2_with fail
    go_ret
    exact ⟨rfl, a_w9⟩
end Go.Proofs.Ytibeoohjdinceaa
