/- fault: the law on what is told of any error that was made, about a code. -/
import Derived.Test.YtfocpgnhbabeiaaDoorFaultO
namespace Go.Proofs.YtfocpgnhbabeiaaDoor
set_option linter.unusedSimpArgs false
set_option linter.unusedVariables false
set_option linter.unusedSectionVars false
open Go.RowKit Go.Extern.Stop Go.Stop Go.Extern

theorem where_in (ps : List Int) (c : Int) (er : Value) (W w : World) (hg : Glob W) (hc : Chain W ps c er) (ha : AnyLater W w) (h0 : 0 < ps.length) (h1 : ps.length ≤ 21) :
    Calls Tryd.prog 8 #[er] w fun e w' => e = .returned (.tuple #[.int .i64 ps[0], .bool true]) ∧ AnyLater w w' := by
  cases ps with
  | nil => simp at h0
  | cons p ps => exact where_chain p ps c er w (hg.later ha) (hc.later ha) (by omega)
set_option maxRecDepth 100000 in
set_option maxHeartbeats 3200000 in
theorem tells_some (v0 : Value) (zs ys : List Int) (m : Nat) (c o : Int) (r : Bool) (w : World) (hi : Ints w w.heap.size v0 zs) (hg : Glob w) (hc : (c == 0) = false) (hr1 : (c == o) = r) (hr2 : (o == c) = r) (hy : zs.take 20 = ys) (hl : ys.length = m + 1) (hm : m < 20) :
    Calls Tryd.prog 3 #[v0, .int .i64 c, .int .i64 o] w fun e w' => e = .returned (.bool true) ∧ AnyLater w w' := by
  have C1 := Lib.hid (show Calls Tryd.prog 6 #[v0] w (Row w ys) by rw [← hy]; exact few_any v0 zs w hi)
  have HG := Lib.hid hg
  have HR := Lib.hid hr1
  have HN := Lib.hid hl
  clear hi hg hr1 hy hl
  go_enter Tryd.func3, Tryd.ntmps3
  go_wp2_with fail
  refine C1.out.mono ?_
  rintro e w1 ⟨v1, rfl, a_w1, o1⟩
  obtain ⟨g1, c1, cur1, rfl, sg1, k1⟩ := own_cells o1 HN.out
  have O1 := Lib.hid o1
  have K1 := Lib.hid k1
  have lg1 := own_lt sg1
  clear o1 C1 k1
  go_wp2_with fail
  first | refine settle_wp (fun wS => AnyLater w1 wS ∧ wS.heap[w1.heap.size]? = some (.cells #[.slice (some ⟨g1, 0, none⟩) (m + 1) c1, .int .i64 c] 26) ∧ wS.heap[g1]? = some (.cells cur1 3 (0, 0))) ?_ ?_ | refine settle_calls (fun wS => AnyLater w1 wS ∧ wS.heap[w1.heap.size]? = some (.cells #[.slice (some ⟨g1, 0, none⟩) (m + 1) c1, .int .i64 c] 26) ∧ wS.heap[g1]? = some (.cells cur1 3 (0, 0))) ?_ ?_
  · refine ⟨?_, ?_, ?_⟩
    · repeat' (first | with_reducible assumption | with_reducible exact AnyLater.refl _ | with_reducible apply AnyLater.setCell | with_reducible apply AnyLater.later | with_reducible apply AnyLater.drewN | with_reducible apply AnyLater.drew | with_reducible apply AnyLater.alloc | ((try simp only [World.size_alloc, World.size_setCell, World.size_drew]); (try dsimp only); omega))
    · ((repeat (first | with_reducible assumption | ((with_reducible apply heap_new); (try simp only [World.size_alloc, World.size_setCell, World.size_drew, World.heap_drewN]); done) | ((with_reducible apply heap_new); (try simp only [World.size_alloc, World.size_setCell, World.size_drew, World.heap_drewN]); omega) | (with_reducible refine heap_old (by (try simp only [World.size_alloc, World.size_setCell, World.size_drew, World.heap_drewN]); omega) ?_) | (with_reducible refine heap_drew ?_) | (with_reducible refine heap_far (by omega) ?_) | (with_reducible apply heap_at))); all_goals rfl)
    · ((repeat (first | with_reducible assumption | ((with_reducible apply heap_new); (try simp only [World.size_alloc, World.size_setCell, World.size_drew, World.heap_drewN]); done) | ((with_reducible apply heap_new); (try simp only [World.size_alloc, World.size_setCell, World.size_drew, World.heap_drewN]); omega) | (with_reducible refine heap_old (by (try simp only [World.size_alloc, World.size_setCell, World.size_drew, World.heap_drewN]); omega) ?_) | (with_reducible refine heap_drew ?_) | (with_reducible refine heap_far (by omega) ?_) | (with_reducible apply heap_at))); all_goals rfl)
  rintro w2 ⟨b_w2, s0_w2, s1_w2⟩
  have a_w2 := a_w1.trans b_w2
  have r0_w2 := own_row s0_w2
  have f0_w2 := own_free s0_w2
  have l0_w2 := own_lt s0_w2
  have r1_w2 := own_row s1_w2
  have f1_w2 := own_free s1_w2
  have l1_w2 := own_lt s1_w2
  have z_w2 := b_w2.below.size
  refine (made_code _ ys c w2 _ (owns_later b_w2 O1.out) (by rw [HN.out]; omega) hc).mono ?_
  rintro e w3 ⟨v3, rfl, b_w3, hc3⟩
  have a_w3 := a_w2.trans b_w3
  have s0_w3 := any_own b_w3 s0_w2
  have s1_w3 := any_own b_w3 s1_w2
  obtain ⟨tq, vq, rfl⟩ := hc3.iface
  have HC := Lib.hid hc3
  clear b_w3 hc3 O1 sg1
  go_wp2_with fail
  refine (Path_chain ys c _ w3 (HG.out.later a_w3) HC.out (by rw [HN.out]; omega)).mono ?_
  rintro e x4 ⟨v4, rfl, b4, o4⟩
  obtain ⟨g2, c2, cur2, rfl, sg2, k2⟩ := own_cells o4 HN.out
  have K2 := Lib.hid k2
  clear o4 k2
  go_wp2_with fail
  first | refine settle_wp (fun wS => AnyLater w3 wS ∧ wS.heap[g2]? = some (.cells cur2 3 (0, 0))) ?_ ?_ | refine settle_calls (fun wS => AnyLater w3 wS ∧ wS.heap[g2]? = some (.cells cur2 3 (0, 0))) ?_ ?_
  · refine ⟨?_, ?_⟩
    · repeat' (first | with_reducible assumption | with_reducible exact AnyLater.refl _ | with_reducible apply AnyLater.setCell | with_reducible apply AnyLater.later | with_reducible apply AnyLater.drewN | with_reducible apply AnyLater.drew | with_reducible apply AnyLater.alloc | ((try simp only [World.size_alloc, World.size_setCell, World.size_drew]); (try dsimp only); omega))
    · ((repeat (first | with_reducible assumption | ((with_reducible apply heap_new); (try simp only [World.size_alloc, World.size_setCell, World.size_drew, World.heap_drewN]); done) | ((with_reducible apply heap_new); (try simp only [World.size_alloc, World.size_setCell, World.size_drew, World.heap_drewN]); omega) | (with_reducible refine heap_old (by (try simp only [World.size_alloc, World.size_setCell, World.size_drew, World.heap_drewN]); omega) ?_) | (with_reducible refine heap_drew ?_) | (with_reducible refine heap_far (by omega) ?_) | (with_reducible apply heap_at))); all_goals rfl)
  rintro w4 ⟨b_w4, s2_w4⟩
  have a_w4 := a_w3.trans b_w4
  have s0_w4 := any_own b_w4 s0_w3
  have s1_w4 := any_own b_w4 s1_w3
  have r0_w4 := own_row s0_w4
  have f0_w4 := own_free s0_w4
  have l0_w4 := own_lt s0_w4
  have r1_w4 := own_row s1_w4
  have f1_w4 := own_free s1_w4
  have l1_w4 := own_lt s1_w4
  (try clear r0_w3); (try clear f0_w3)
  (try clear r1_w3); (try clear f1_w3)
  have r2_w4 := own_row s2_w4
  have f2_w4 := own_free s2_w4
  have l2_w4 := own_lt s2_w4
  have z_w4 := b_w4.below.size
  clear b4 sg2
  apply wp_region_mem (32) [] (by kernel_rfl) (by kernel_rfl) (by simp)
  case hstab =>
    intro e he v x y hxy hv
    simp only [List.mem_cons, List.not_mem_nil, or_false] at he
  case hlex =>
    intro U
    have q0 := fun (v : Later (later U)) => own_row (any_own ⟨v, rfl⟩ (any_own ⟨U, rfl⟩ s0_w4))
    have q1 := fun (v : Later (later U)) => own_row (any_own ⟨v, rfl⟩ (any_own ⟨U, rfl⟩ s1_w4))
    have q2 := fun (v : Later (later U)) => own_row (any_own ⟨v, rfl⟩ (any_own ⟨U, rfl⟩ s2_w4))
    simp only [absFrom, absOp, idx, List.map_cons, List.map_nil, List.contains_cons, List.contains_nil, Nat.reduceBEq, Bool.or_false, Bool.false_or, Bool.true_or, Bool.or_true, Bool.false_eq_true, Nat.reduceLeDiff, Nat.reduceAdd, if_false, if_true]
    repeat (go_big_quiet_step (first | (go_at_call 12; exact in_later (depth_in ys (m + 1) c _ w3 _ HC.out ((b_w4.trans ⟨U, rfl⟩).trans ⟨_, rfl⟩) HN.out (by omega))) | (go_at_call 14; exact in_later (refDepth_some _ _ _ _ _ hc (by omega))) | (go_at_call 9; exact in_later (code_in ys c _ w3 _ (HG.out.later a_w3) HC.out ((b_w4.trans ⟨U, rfl⟩).trans ⟨_, rfl⟩) (by rw [HN.out]; omega))) | (go_at_call 10; exact in_later (fis_in ys c o _ w3 _ r HR.out HC.out ((b_w4.trans ⟨U, rfl⟩).trans ⟨_, rfl⟩) (by rw [HN.out]; omega)))))
    exact wpQuiet_nil rfl
  case hown =>
    intro e he o ho
    simp only [List.mem_cons, List.not_mem_nil, or_false] at he
  case htail =>
    intro g u hst hne
    have b_w5 : AnyLater w4 (later u) := ⟨u, rfl⟩
    generalize later u = w5 at *
    clear u
    clear hst hne
    simp only [fillAll, Act.put, List.setIfInBounds_toArray, List.set_cons_zero, List.set_cons_succ, List.drop_succ_cons, List.drop_zero]
    have z_w5 := b_w5.below.size
    have a_w5 := a_w4.trans b_w5
    have s0_w5 := any_own b_w5 s0_w4
    have s1_w5 := any_own b_w5 s1_w4
    have s2_w5 := any_own b_w5 s2_w4
    have r0_w5 := own_row s0_w5
    have f0_w5 := own_free s0_w5
    have l0_w5 := own_lt s0_w5
    have r1_w5 := own_row s1_w5
    have f1_w5 := own_free s1_w5
    have l1_w5 := own_lt s1_w5
    have r2_w5 := own_row s2_w5
    have f2_w5 := own_free s2_w5
    have l2_w5 := own_lt s2_w5
    (try clear r0_w4); (try clear f0_w4)
    (try clear r1_w4); (try clear f1_w4)
    (try clear r2_w4); (try clear f2_w4)
    go_wp2_with fail
    go_loopg [12] (m + 1) (fun k i wr => ∃ j : Nat, k = m + 1 - j ∧ j ≤ m + 1 ∧ i = .int .i64 j ∧ AnyLater w5 wr)
    case atStart => exact ⟨0, by omega, by omega, rfl, AnyLater.refl _⟩
    case round =>
      obtain ⟨j, hk, hj, rfl, a_wr⟩ := hrel
      have s0_wr := any_own a_wr s0_w5
      have s1_wr := any_own a_wr s1_w5
      have s2_wr := any_own a_wr s2_w5
      by_cases hlt : j < m + 1
      · have lj : j < ys.length := by rw [HN.out]; exact hlt
        have e1 := K1.out j lj
        have e2 := K2.out j lj
        have i1 : (j : Int) < ((m + 1 : Nat) : Int) := by omega
        go_wp2_with fail
        apply wp_region_mem (10) [] (by kernel_rfl) (by kernel_rfl) (by simp)
        case hstab =>
          intro e he v x y hxy hv
          simp only [List.mem_cons, List.not_mem_nil, or_false] at he
        case hlex =>
          intro U
          have q0 := fun (v : Later (later U)) => own_row (any_own ⟨v, rfl⟩ (any_own ⟨U, rfl⟩ s0_wr))
          have q1 := fun (v : Later (later U)) => own_row (any_own ⟨v, rfl⟩ (any_own ⟨U, rfl⟩ s1_wr))
          have q2 := fun (v : Later (later U)) => own_row (any_own ⟨v, rfl⟩ (any_own ⟨U, rfl⟩ s2_wr))
          simp only [absFrom, absOp, idx, List.map_cons, List.map_nil, List.contains_cons, List.contains_nil, Nat.reduceBEq, Bool.or_false, Bool.false_or, Bool.true_or, Bool.or_true, Bool.false_eq_true, Nat.reduceLeDiff, Nat.reduceAdd, if_false, if_true]
          repeat (go_big_quiet_step (first | fail))
          exact wpQuiet_nil rfl
        case hown =>
          intro e he o ho
          simp only [List.mem_cons, List.not_mem_nil, or_false] at he
        case htail =>
          intro g u hst hne
          have b_w6 : AnyLater wr (later u) := ⟨u, rfl⟩
          generalize later u = w6 at *
          clear u
          clear hst hne
          simp only [fillAll, Act.put, List.setIfInBounds_toArray, List.set_cons_zero, List.set_cons_succ, List.drop_succ_cons, List.drop_zero]
          have z_w6 := b_w6.below.size
          have a_w6 := a_wr.trans b_w6
          have s0_w6 := any_own b_w6 s0_wr
          have s1_w6 := any_own b_w6 s1_wr
          have s2_w6 := any_own b_w6 s2_wr
          have r0_w6 := own_row s0_w6
          have f0_w6 := own_free s0_w6
          have l0_w6 := own_lt s0_w6
          have r1_w6 := own_row s1_w6
          have f1_w6 := own_free s1_w6
          have l1_w6 := own_lt s1_w6
          have r2_w6 := own_row s2_w6
          have f2_w6 := own_free s2_w6
          have l2_w6 := own_lt s2_w6
          (try clear r0_wr); (try clear f0_wr)
          (try clear r1_wr); (try clear f1_wr)
          (try clear r2_wr); (try clear f2_wr)
          go_wp2_with fail
          go_roundg (m + 1 - (j + 1))
          case measure => omega
          case rel => exact ⟨j + 1, rfl, hlt, by go_num, a_wr.trans b_w6⟩
      · obtain rfl : j = m + 1 := by omega
        go_wp2_with fail
        have l0 : 0 < ys.length := by rw [HN.out]; omega
        refine (where_in ys c _ w3 wr (HG.out.later a_w3) HC.out ((b_w4.trans b_w5).trans a_wr) l0 (by rw [HN.out]; omega)).mono ?_
        rintro e w7 ⟨rfl, b_w7⟩
        have s2_w7 := any_own b_w7 s2_wr
        have r2_w7 := own_row s2_w7
        have e2 := K2.out 0 l0
        have hp : (0 : Int) < (m : Int) + 1 := by omega
        have a_w7 : AnyLater w w7 := (a_w5.trans a_wr).trans b_w7
        clear b_w7 s2_w7
        go_wp2_with fail
        refine (lives_any _ (HG.out.later a_w7)).mono ?_
        rintro e w8 ⟨rfl, b_w8⟩
        have z_w8 := b_w8.below.size
        have a_w8 := a_w7.trans b_w8
        go_wp2_with fail
        go_ret
        exact ⟨rfl, a_w8⟩

set_option maxRecDepth 100000 in
set_option maxHeartbeats 3200000 in
theorem tells_empty (v0 : Value) (zs : List Int) (c o : Int) (r : Bool) (w : World) (hi : Ints w w.heap.size v0 zs) (hg : Glob w) (hc : (c == 0) = false) (hr1 : (c == o) = r) (hr2 : (o == c) = r) (hy : zs.take 20 = []) :
    Calls Tryd.prog 3 #[v0, .int .i64 c, .int .i64 o] w fun e w' => e = .returned (.bool true) ∧ AnyLater w w' := by
  have C1 := Lib.hid (show Calls Tryd.prog 6 #[v0] w (Row w []) by rw [← hy]; exact few_any v0 zs w hi)
  have HG := Lib.hid hg
  have HR := Lib.hid hr1
  clear hi hg hr1 hy
  go_enter Tryd.func3, Tryd.ntmps3
  go_wp2_with fail
  refine C1.out.mono ?_
  rintro e w1 ⟨v1, rfl, a_w1, o1⟩
  obtain ⟨a1, c1, rfl⟩ := own_form o1
  have O1 := Lib.hid o1
  clear o1 C1
  simp only [List.length_nil] at *
  go_wp2_with fail
  first | refine settle_wp (fun wS => AnyLater w1 wS ∧ wS.heap[w1.heap.size]? = some (.cells #[.slice a1 0 c1, .int .i64 c] 26)) ?_ ?_ | refine settle_calls (fun wS => AnyLater w1 wS ∧ wS.heap[w1.heap.size]? = some (.cells #[.slice a1 0 c1, .int .i64 c] 26)) ?_ ?_
  · refine ⟨?_, ?_⟩
    · repeat' (first | with_reducible assumption | with_reducible exact AnyLater.refl _ | with_reducible apply AnyLater.setCell | with_reducible apply AnyLater.later | with_reducible apply AnyLater.drewN | with_reducible apply AnyLater.drew | with_reducible apply AnyLater.alloc | ((try simp only [World.size_alloc, World.size_setCell, World.size_drew]); (try dsimp only); omega))
    · ((repeat (first | with_reducible assumption | ((with_reducible apply heap_new); (try simp only [World.size_alloc, World.size_setCell, World.size_drew, World.heap_drewN]); done) | ((with_reducible apply heap_new); (try simp only [World.size_alloc, World.size_setCell, World.size_drew, World.heap_drewN]); omega) | (with_reducible refine heap_old (by (try simp only [World.size_alloc, World.size_setCell, World.size_drew, World.heap_drewN]); omega) ?_) | (with_reducible refine heap_drew ?_) | (with_reducible refine heap_far (by omega) ?_) | (with_reducible apply heap_at))); all_goals rfl)
  rintro w2 ⟨b_w2, s0_w2⟩
  have a_w2 := a_w1.trans b_w2
  have r0_w2 := own_row s0_w2
  have f0_w2 := own_free s0_w2
  have l0_w2 := own_lt s0_w2
  have z_w2 := b_w2.below.size
  refine (made_code _ [] c w2 _ (owns_later b_w2 O1.out) (by decide) hc).mono ?_
  rintro e w3 ⟨v3, rfl, b_w3, hc3⟩
  have a_w3 := a_w2.trans b_w3
  have s0_w3 := any_own b_w3 s0_w2
  obtain rfl := hc3
  clear b_w3 O1
  go_wp2_with fail
  refine (Path_chain [] c _ w3 (HG.out.later a_w3) rfl (by decide)).mono ?_
  rintro e w4 ⟨v4, rfl, b_w4, o4⟩
  have a_w4 := a_w3.trans b_w4
  have s0_w4 := any_own b_w4 s0_w3
  obtain ⟨a2, c2, rfl⟩ := own_form o4
  clear o4
  simp only [List.length_nil] at *
  go_wp2_with fail
  apply wp_region_mem (32) [] (by kernel_rfl) (by kernel_rfl) (by simp)
  case hstab =>
    intro e he v x y hxy hv
    simp only [List.mem_cons, List.not_mem_nil, or_false] at he
  case hlex =>
    intro U
    have q0 := fun (v : Later (later U)) => own_row (any_own ⟨v, rfl⟩ (any_own ⟨U, rfl⟩ s0_w4))
    simp only [absFrom, absOp, idx, List.map_cons, List.map_nil, List.contains_cons, List.contains_nil, Nat.reduceBEq, Bool.or_false, Bool.false_or, Bool.true_or, Bool.or_true, Bool.false_eq_true, Nat.reduceLeDiff, Nat.reduceAdd, if_false, if_true]
    repeat (go_big_quiet_step (first | (go_at_call 12; exact in_later (depth_in [] 0 c _ w3 _ rfl ((b_w4.trans ⟨U, rfl⟩).trans ⟨_, rfl⟩) rfl (by decide))) | (go_at_call 14; exact in_later (refDepth_some _ _ _ _ _ hc (by decide))) | (go_at_call 9; exact in_later (code_in [] c _ w3 _ (HG.out.later a_w3) rfl ((b_w4.trans ⟨U, rfl⟩).trans ⟨_, rfl⟩) (by decide))) | (go_at_call 10; exact in_later (fis_in [] c o _ w3 _ r HR.out rfl ((b_w4.trans ⟨U, rfl⟩).trans ⟨_, rfl⟩) (by decide)))))
    exact wpQuiet_nil rfl
  case hown =>
    intro e he o ho
    simp only [List.mem_cons, List.not_mem_nil, or_false] at he
  case htail =>
    intro g u hst hne
    have b_w5 : AnyLater w4 (later u) := ⟨u, rfl⟩
    generalize later u = w5 at *
    clear u
    clear hst hne
    simp only [fillAll, Act.put, List.setIfInBounds_toArray, List.set_cons_zero, List.set_cons_succ, List.drop_succ_cons, List.drop_zero]
    have z_w5 := b_w5.below.size
    have a_w5 := a_w4.trans b_w5
    have s0_w5 := any_own b_w5 s0_w4
    have r0_w5 := own_row s0_w5
    have f0_w5 := own_free s0_w5
    have l0_w5 := own_lt s0_w5
    (try clear r0_w4); (try clear f0_w4)
    go_wp2_with fail
    refine wp_loop_rounds 1 ?_
    rw [rounds_succ]
    go_wp2_with fail
    refine (where_code c _ (HG.out.later a_w5)).mono ?_
    rintro e w6 ⟨rfl, b_w6⟩
    have z_w6 := b_w6.below.size
    have a_w6 := a_w5.trans b_w6
    go_wp2_with fail
    refine (lives_any _ (HG.out.later a_w6)).mono ?_
    rintro e w7 ⟨rfl, b_w7⟩
    have z_w7 := b_w7.below.size
    have a_w7 := a_w6.trans b_w7
    go_wp2_with fail
    go_ret
    exact ⟨rfl, a_w7⟩
/-- FaultTells -/
theorem tells_any (v0 : Value) (zs : List Int) (c o : Int) (w : World) (hi : Ints w w.heap.size v0 zs) (hg : Glob w) :
    Calls Tryd.prog 3 #[v0, .int .i64 c, .int .i64 o] w fun e w' => e = .returned (.bool true) ∧ AnyLater w w' := by
  by_cases hc : c = 0
  · subst hc
    exact tells_zero v0 zs o w hi hg
  · have hc' : (c == 0) = false := by simpa using hc
    have hr : (o == c) = (c == o) := by rw [Bool.eq_iff_iff]; simp only [beq_iff_eq]; exact eq_comm
    cases hz : (zs.take 20).length with
    | zero => exact tells_empty v0 zs c o _ w hi hg hc' rfl hr (List.eq_nil_of_length_eq_zero hz)
    | succ m => exact tells_some v0 zs _ m c o _ w hi hg hc' rfl hr rfl hz (by rw [List.length_take] at hz; omega)
end Go.Proofs.YtfocpgnhbabeiaaDoor
