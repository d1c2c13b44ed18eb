/- what the proof stands on: SeqI -/
import Derived.LoopN
import Derived.Deep.LoopGhost
import Derived.BigRegion
import Derived.RegionTactic
import Derived.Shelf.Abstract
import Derived.Test.YtamhnffokoejjaaGreatDoorKnat
import Derived.Test.YtamhnffokoejjaaGreatDoorKnad
namespace Go.Proofs.YtamhnffokoejjaaGreatDoor
set_option linter.unusedSimpArgs false
set_option linter.unusedVariables false
set_option linter.unusedSectionVars false
open Go.RowKit
variable {B : Nat}
theorem cnts_step (p : Qs) (x : Int × Int) : (p ++ [x]).length = p.length + 1 ∧ tlR (p ++ [x]) = tlR p + x.1 ∧ tlH (p ++ [x]) = tlH p + x.2 := by
  rw [tlR_append, tlH_append]
  simp [tlR, tlH]
set_option maxRecDepth 100000 in
set_option maxHeartbeats 1600000 in
theorem seekf_yes0 (ga gw gh : Nat) (a f t n R H n1 R1 H1 : Int) (w : World) (h0 : w.heap[ga]? = some (.cells #[.int .i64 a] 3)) (h1 : w.heap[gw]? = some (.cells #[.int .i64 0] 3)) (h2 : w.heap[gh]? = some (.cells #[.int .i64 n, .int .i64 R, .int .i64 H] 206))
    (e0 : n + 1 = n1) (e1 : R + f = R1) (e2 : H + t = H1) (b0 : 0 ≤ n1 ∧ n1 ≤ 9000000000000) (b1 : 0 ≤ R1 ∧ R1 ≤ 9000000000000) (b2 : 0 ≤ H1 ∧ H1 ≤ 9000000000000) (hc : a < n1) :
    Calls Tryz.prog 209 #[.agg #[.int .i64 f, .int .i64 t], .pointer (some ⟨gh, 0, none⟩), .pointer (some ⟨ga, 0, none⟩), .pointer (some ⟨gw, 0, none⟩)] w fun e w' => e = .returned (.bool true) ∧ AnyLater w w' := by
  have s0_w := h0
  have s1_w := h1
  have s2_w := h2
  have HC := Lib.hid (fun w => countsOf_any f t w)
  have HA := Lib.hid (fun w => and_any n R H 1 f t n1 R1 H1 w e0 e1 e2 b0 b1 b2)
  clear h0 h1 h2 e0 e1 e2 b0 b1 b2
  have d : decide (a < n1) = true := decide_eq_true hc
  go_enter Tryz.func209, Tryz.ntmps209
  go_wp2_with fail
  first | refine settle_wp (fun wS => AnyLater w wS ∧ wS.heap[w.heap.size]? = some (.cells #[.int .i64 f, .int .i64 t] 61)) ?_ ?_ | refine settle_calls (fun wS => AnyLater w wS ∧ wS.heap[w.heap.size]? = some (.cells #[.int .i64 f, .int .i64 t] 61)) ?_ ?_
  · refine ⟨?_, ?_⟩
    · repeat' (first | with_reducible assumption | with_reducible exact AnyLater.refl _ | with_reducible apply AnyLater.setCell | with_reducible apply AnyLater.later | with_reducible apply AnyLater.drewN | with_reducible apply AnyLater.drew | with_reducible apply AnyLater.alloc | ((try simp only [World.size_alloc, World.size_setCell, World.size_drew]); (try dsimp only); omega))
    · ((repeat (first | with_reducible assumption | ((with_reducible apply heap_new); (try simp only [World.size_alloc, World.size_setCell, World.size_drew, World.heap_drewN]); done) | ((with_reducible apply heap_new); (try simp only [World.size_alloc, World.size_setCell, World.size_drew, World.heap_drewN]); omega) | (with_reducible refine heap_old (by (try simp only [World.size_alloc, World.size_setCell, World.size_drew, World.heap_drewN]); omega) ?_) | (with_reducible refine heap_drew ?_) | (with_reducible refine heap_far (by omega) ?_) | (with_reducible apply heap_at))); all_goals rfl)
  rintro w1 ⟨b_w1, s3_w1⟩
  have a_w1 := b_w1
  have s0_w1 := any_own b_w1 s0_w
  have s1_w1 := any_own b_w1 s1_w
  have s2_w1 := any_own b_w1 s2_w
  have r0_w1 := own_row s0_w1
  have f0_w1 := own_free s0_w1
  have l0_w1 := own_lt s0_w1
  have r1_w1 := own_row s1_w1
  have f1_w1 := own_free s1_w1
  have l1_w1 := own_lt s1_w1
  have r2_w1 := own_row s2_w1
  have f2_w1 := own_free s2_w1
  have l2_w1 := own_lt s2_w1
  (try clear r0_w); (try clear f0_w)
  (try clear r1_w); (try clear f1_w)
  (try clear r2_w); (try clear f2_w)
  have r3_w1 := own_row s3_w1
  have f3_w1 := own_free s3_w1
  have l3_w1 := own_lt s3_w1
  have z_w1 := b_w1.below.size
  apply wp_region_free (5) [⟨2, 9, .agg #[.int .i64 1, .int .i64 f, .int .i64 t], false, fun v _ => v = .agg #[.int .i64 1, .int .i64 f, .int .i64 t]⟩, ⟨3, 10, .agg #[.int .i64 n1, .int .i64 R1, .int .i64 H1], false, fun v _ => v = .agg #[.int .i64 n1, .int .i64 R1, .int .i64 H1]⟩, ⟨4, 6, undef, true, isVar (.cells #[.int .i64 0, .int .i64 0, .int .i64 0] 206)⟩] [⟨4, 6, isVar (.cells #[.int .i64 0, .int .i64 0, .int .i64 0] 206)⟩] rfl (by kernel_rfl) (by kernel_rfl) (by kernel_rfl) (by simp) (by kernel_rfl)
  case hstab =>
    intro c hc
    simp only [List.mem_cons, List.not_mem_nil, or_false] at hc
    rcases hc with rfl | rfl | rfl
    · intro v x y hxy hv; exact hv
    · intro v x y hxy hv; exact hv
    · intro v x y hxy hv; exact isVar_stays hxy hv
  case hfix =>
    intro c hc
    simp only [List.mem_cons, List.not_mem_nil, or_false] at hc
    rcases hc with rfl | rfl | rfl
    · exact .inr fun u x h => h
    · exact .inr fun u x h => h
    · exact .inl rfl
  case hlex =>
    intro U hU
    have q0 := own_row (any_own hU s0_w1)
    have q1 := own_row (any_own hU s1_w1)
    have q2 := own_row (any_own hU s2_w1)
    have q3 := own_row (any_own hU s3_w1)
    simp only [List.map_cons, List.map_nil, CA.act, actFrom, actOp, List.lookup, Nat.reduceBEq, Nat.reduceLeDiff, Nat.reduceAdd, if_false, if_true]
    repeat (go_big_quiet_step (fail))
    exact wpQuiet_nil rfl
  case hstep =>
    intro j hj o ho
    have hj2 : j = 0 ∨ j = 1 ∨ j = 2 := by simp at hj; omega
    rcases hj2 with rfl | rfl | rfl
    · cases ho
      refine ⟨rfl, fun g x hx hp => ?_⟩
      clear hp
      simp only [fillAll, Act.put, List.setIfInBounds_toArray, List.set_cons_zero, List.set_cons_succ]
      refine chain_go ?_ (free_fix (HC.out x))
      first | (simp [go_sem, execOp]; done) | simp [go_sem, execOp, hcf]
    · cases ho
      refine ⟨rfl, fun g x hx hp => ?_⟩
      clear hp
      simp only [fillAll, Act.put, List.setIfInBounds_toArray, List.set_cons_zero, List.set_cons_succ]
      refine chain_go ?_ (free_fix (HA.out x))
      first | (simp [go_sem, execOp]; done) | simp [go_sem, execOp, hcf]
    · cases ho
      refine ⟨rfl, fun g x hx hp => ?_⟩
      exact free_var (fun r x => by simp [go_sem, execOp])
  case htail =>
    intro g u hst hne
    have b_w2 : AnyLater w1 (later u) := ⟨u, rfl⟩
    generalize later u = w2 at *
    clear u
    obtain ⟨⟨b6, e6, s4_w2⟩, o6_w2⟩ := hst _ (List.mem_of_getElem? (i := 0) rfl)
    dsimp only at e6 o6_w2
    have o6_w2 := o6_w2 b6 (by rw [e6]; rfl)
    clear hst hne
    simp only [fillAll, Act.put, List.setIfInBounds_toArray, List.set_cons_zero, List.set_cons_succ, List.drop_succ_cons, List.drop_zero, List.drop_nil]
    rw [e6]
    clear e6
    have z_w2 := b_w2.below.size
    have a_w2 := a_w1.trans b_w2
    have s0_w2 := any_own b_w2 s0_w1
    have s1_w2 := any_own b_w2 s1_w1
    have s2_w2 := any_own b_w2 s2_w1
    have s3_w2 := any_own b_w2 s3_w1
    have r0_w2 := own_row s0_w2
    have f0_w2 := own_free s0_w2
    have l0_w2 := own_lt s0_w2
    have r1_w2 := own_row s1_w2
    have f1_w2 := own_free s1_w2
    have l1_w2 := own_lt s1_w2
    have r2_w2 := own_row s2_w2
    have f2_w2 := own_free s2_w2
    have l2_w2 := own_lt s2_w2
    have r3_w2 := own_row s3_w2
    have f3_w2 := own_free s3_w2
    have l3_w2 := own_lt s3_w2
    (try clear r0_w1); (try clear f0_w1)
    (try clear r1_w1); (try clear f1_w1)
    (try clear r2_w1); (try clear f2_w1)
    (try clear r3_w1); (try clear f3_w1)
    have r4_w2 := own_row s4_w2
    have f4_w2 := own_free s4_w2
    have l4_w2 := own_lt s4_w2
    go_wp2_with fail
    go_quiet (fail)
    go_wp2_with fail
    go_ret
    exact ⟨rfl, by repeat' (first | with_reducible assumption | with_reducible exact AnyLater.refl _ | with_reducible apply AnyLater.setCell | with_reducible apply AnyLater.later | with_reducible apply AnyLater.drewN | with_reducible apply AnyLater.drew | with_reducible apply AnyLater.alloc | ((try simp only [World.size_alloc, World.size_setCell, World.size_drew]); (try dsimp only); omega))⟩
set_option maxRecDepth 100000 in
set_option maxHeartbeats 1600000 in
theorem seekf_no0 (ga gw gh : Nat) (a f t n R H n1 R1 H1 : Int) (w : World) (h0 : w.heap[ga]? = some (.cells #[.int .i64 a] 3)) (h1 : w.heap[gw]? = some (.cells #[.int .i64 0] 3)) (h2 : w.heap[gh]? = some (.cells #[.int .i64 n, .int .i64 R, .int .i64 H] 206))
    (e0 : n + 1 = n1) (e1 : R + f = R1) (e2 : H + t = H1) (b0 : 0 ≤ n1 ∧ n1 ≤ 9000000000000) (b1 : 0 ≤ R1 ∧ R1 ≤ 9000000000000) (b2 : 0 ≤ H1 ∧ H1 ≤ 9000000000000) (hc : ¬ a < n1) :
    Calls Tryz.prog 209 #[.agg #[.int .i64 f, .int .i64 t], .pointer (some ⟨gh, 0, none⟩), .pointer (some ⟨ga, 0, none⟩), .pointer (some ⟨gw, 0, none⟩)] w fun e w' => e = .returned (.bool false) ∧ Stays (fun q => q = gh) w w' ∧ w'.heap[gh]? = some (.cells #[.int .i64 n1, .int .i64 R1, .int .i64 H1] 206) := by
  have s0_w := h0
  have s1_w := h1
  have s2_w := h2
  have HC := Lib.hid (fun w => countsOf_any f t w)
  have HA := Lib.hid (fun w => and_any n R H 1 f t n1 R1 H1 w e0 e1 e2 b0 b1 b2)
  clear h0 h1 h2 e0 e1 e2 b0 b1 b2
  have d : decide (a < n1) = false := decide_eq_false hc
  have d2 : n1 ≤ a := by omega
  go_enter Tryz.func209, Tryz.ntmps209
  go_wp2_with fail
  first | refine settle_wp (fun wS => AnyLater w wS ∧ wS.heap[w.heap.size]? = some (.cells #[.int .i64 f, .int .i64 t] 61)) ?_ ?_ | refine settle_calls (fun wS => AnyLater w wS ∧ wS.heap[w.heap.size]? = some (.cells #[.int .i64 f, .int .i64 t] 61)) ?_ ?_
  · refine ⟨?_, ?_⟩
    · repeat' (first | with_reducible assumption | with_reducible exact AnyLater.refl _ | with_reducible apply AnyLater.setCell | with_reducible apply AnyLater.later | with_reducible apply AnyLater.drewN | with_reducible apply AnyLater.drew | with_reducible apply AnyLater.alloc | ((try simp only [World.size_alloc, World.size_setCell, World.size_drew]); (try dsimp only); omega))
    · ((repeat (first | with_reducible assumption | ((with_reducible apply heap_new); (try simp only [World.size_alloc, World.size_setCell, World.size_drew, World.heap_drewN]); done) | ((with_reducible apply heap_new); (try simp only [World.size_alloc, World.size_setCell, World.size_drew, World.heap_drewN]); omega) | (with_reducible refine heap_old (by (try simp only [World.size_alloc, World.size_setCell, World.size_drew, World.heap_drewN]); omega) ?_) | (with_reducible refine heap_drew ?_) | (with_reducible refine heap_far (by omega) ?_) | (with_reducible apply heap_at))); all_goals rfl)
  rintro w1 ⟨b_w1, s3_w1⟩
  have a_w1 := b_w1
  have s0_w1 := any_own b_w1 s0_w
  have s1_w1 := any_own b_w1 s1_w
  have s2_w1 := any_own b_w1 s2_w
  have r0_w1 := own_row s0_w1
  have f0_w1 := own_free s0_w1
  have l0_w1 := own_lt s0_w1
  have r1_w1 := own_row s1_w1
  have f1_w1 := own_free s1_w1
  have l1_w1 := own_lt s1_w1
  have r2_w1 := own_row s2_w1
  have f2_w1 := own_free s2_w1
  have l2_w1 := own_lt s2_w1
  (try clear r0_w); (try clear f0_w)
  (try clear r1_w); (try clear f1_w)
  (try clear r2_w); (try clear f2_w)
  have r3_w1 := own_row s3_w1
  have f3_w1 := own_free s3_w1
  have l3_w1 := own_lt s3_w1
  have z_w1 := b_w1.below.size
  apply wp_region_free (5) [⟨2, 9, .agg #[.int .i64 1, .int .i64 f, .int .i64 t], false, fun v _ => v = .agg #[.int .i64 1, .int .i64 f, .int .i64 t]⟩, ⟨3, 10, .agg #[.int .i64 n1, .int .i64 R1, .int .i64 H1], false, fun v _ => v = .agg #[.int .i64 n1, .int .i64 R1, .int .i64 H1]⟩, ⟨4, 6, undef, true, isVar (.cells #[.int .i64 0, .int .i64 0, .int .i64 0] 206)⟩] [⟨4, 6, isVar (.cells #[.int .i64 0, .int .i64 0, .int .i64 0] 206)⟩] rfl (by kernel_rfl) (by kernel_rfl) (by kernel_rfl) (by simp) (by kernel_rfl)
  case hstab =>
    intro c hc
    simp only [List.mem_cons, List.not_mem_nil, or_false] at hc
    rcases hc with rfl | rfl | rfl
    · intro v x y hxy hv; exact hv
    · intro v x y hxy hv; exact hv
    · intro v x y hxy hv; exact isVar_stays hxy hv
  case hfix =>
    intro c hc
    simp only [List.mem_cons, List.not_mem_nil, or_false] at hc
    rcases hc with rfl | rfl | rfl
    · exact .inr fun u x h => h
    · exact .inr fun u x h => h
    · exact .inl rfl
  case hlex =>
    intro U hU
    have q0 := own_row (any_own hU s0_w1)
    have q1 := own_row (any_own hU s1_w1)
    have q2 := own_row (any_own hU s2_w1)
    have q3 := own_row (any_own hU s3_w1)
    simp only [List.map_cons, List.map_nil, CA.act, actFrom, actOp, List.lookup, Nat.reduceBEq, Nat.reduceLeDiff, Nat.reduceAdd, if_false, if_true]
    repeat (go_big_quiet_step (fail))
    exact wpQuiet_nil rfl
  case hstep =>
    intro j hj o ho
    have hj2 : j = 0 ∨ j = 1 ∨ j = 2 := by simp at hj; omega
    rcases hj2 with rfl | rfl | rfl
    · cases ho
      refine ⟨rfl, fun g x hx hp => ?_⟩
      clear hp
      simp only [fillAll, Act.put, List.setIfInBounds_toArray, List.set_cons_zero, List.set_cons_succ]
      refine chain_go ?_ (free_fix (HC.out x))
      first | (simp [go_sem, execOp]; done) | simp [go_sem, execOp, hcf]
    · cases ho
      refine ⟨rfl, fun g x hx hp => ?_⟩
      clear hp
      simp only [fillAll, Act.put, List.setIfInBounds_toArray, List.set_cons_zero, List.set_cons_succ]
      refine chain_go ?_ (free_fix (HA.out x))
      first | (simp [go_sem, execOp]; done) | simp [go_sem, execOp, hcf]
    · cases ho
      refine ⟨rfl, fun g x hx hp => ?_⟩
      exact free_var (fun r x => by simp [go_sem, execOp])
  case htail =>
    intro g u hst hne
    have b_w2 : AnyLater w1 (later u) := ⟨u, rfl⟩
    generalize later u = w2 at *
    clear u
    obtain ⟨⟨b6, e6, s4_w2⟩, o6_w2⟩ := hst _ (List.mem_of_getElem? (i := 0) rfl)
    dsimp only at e6 o6_w2
    have o6_w2 := o6_w2 b6 (by rw [e6]; rfl)
    clear hst hne
    simp only [fillAll, Act.put, List.setIfInBounds_toArray, List.set_cons_zero, List.set_cons_succ, List.drop_succ_cons, List.drop_zero, List.drop_nil]
    rw [e6]
    clear e6
    have z_w2 := b_w2.below.size
    have a_w2 := a_w1.trans b_w2
    have s0_w2 := any_own b_w2 s0_w1
    have s1_w2 := any_own b_w2 s1_w1
    have s2_w2 := any_own b_w2 s2_w1
    have s3_w2 := any_own b_w2 s3_w1
    have r0_w2 := own_row s0_w2
    have f0_w2 := own_free s0_w2
    have l0_w2 := own_lt s0_w2
    have r1_w2 := own_row s1_w2
    have f1_w2 := own_free s1_w2
    have l1_w2 := own_lt s1_w2
    have r2_w2 := own_row s2_w2
    have f2_w2 := own_free s2_w2
    have l2_w2 := own_lt s2_w2
    have r3_w2 := own_row s3_w2
    have f3_w2 := own_free s3_w2
    have l3_w2 := own_lt s3_w2
    (try clear r0_w1); (try clear f0_w1)
    (try clear r1_w1); (try clear f1_w1)
    (try clear r2_w1); (try clear f2_w1)
    (try clear r3_w1); (try clear f3_w1)
    have r4_w2 := own_row s4_w2
    have f4_w2 := own_free s4_w2
    have l4_w2 := own_lt s4_w2
    go_wp2_with fail
    first | refine settle_wp (fun wS => AnyLater w1 wS ∧ wS.heap[b6]? = some (.cells #[.int .i64 n1, .int .i64 R1, .int .i64 H1] 206)) ?_ ?_ | refine settle_calls (fun wS => AnyLater w1 wS ∧ wS.heap[b6]? = some (.cells #[.int .i64 n1, .int .i64 R1, .int .i64 H1] 206)) ?_ ?_
    · refine ⟨?_, ?_⟩
      · repeat' (first | with_reducible assumption | with_reducible exact AnyLater.refl _ | with_reducible apply AnyLater.setCell | with_reducible apply AnyLater.later | with_reducible apply AnyLater.drewN | with_reducible apply AnyLater.drew | with_reducible apply AnyLater.alloc | ((try simp only [World.size_alloc, World.size_setCell, World.size_drew]); (try dsimp only); omega))
      · ((repeat (first | with_reducible assumption | ((with_reducible apply heap_new); (try simp only [World.size_alloc, World.size_setCell, World.size_drew, World.heap_drewN]); done) | ((with_reducible apply heap_new); (try simp only [World.size_alloc, World.size_setCell, World.size_drew, World.heap_drewN]); omega) | (with_reducible refine heap_old (by (try simp only [World.size_alloc, World.size_setCell, World.size_drew, World.heap_drewN]); omega) ?_) | (with_reducible refine heap_drew ?_) | (with_reducible refine heap_far (by omega) ?_) | (with_reducible apply heap_at))); all_goals rfl)
    rintro w3 ⟨b_w3, s4_w3⟩
    have a_w3 := a_w1.trans b_w3
    have s0_w3 := any_own b_w3 s0_w1
    have s1_w3 := any_own b_w3 s1_w1
    have s2_w3 := any_own b_w3 s2_w1
    have s3_w3 := any_own b_w3 s3_w1
    have r0_w3 := own_row s0_w3
    have f0_w3 := own_free s0_w3
    have l0_w3 := own_lt s0_w3
    have r1_w3 := own_row s1_w3
    have f1_w3 := own_free s1_w3
    have l1_w3 := own_lt s1_w3
    have r2_w3 := own_row s2_w3
    have f2_w3 := own_free s2_w3
    have l2_w3 := own_lt s2_w3
    have r3_w3 := own_row s3_w3
    have f3_w3 := own_free s3_w3
    have l3_w3 := own_lt s3_w3
    (try clear r0_w1); (try clear f0_w1)
    (try clear r1_w1); (try clear f1_w1)
    (try clear r2_w1); (try clear f2_w1)
    (try clear r3_w1); (try clear f3_w1)
    have r4_w3 := own_row s4_w3
    have f4_w3 := own_free s4_w3
    have l4_w3 := own_lt s4_w3
    have z_w3 := b_w3.below.size
    go_quiet (fail)
    generalize hw4 : w3.drewN nq = w4
    have b_w4 : AnyLater w3 w4 := by rw [← hw4]; exact (AnyLater.refl _).drewN _
    clear hw4
    have z_w4 := b_w4.below.size
    have a_w4 := a_w3.trans b_w4
    have s0_w4 := any_own b_w4 s0_w3
    have s1_w4 := any_own b_w4 s1_w3
    have s2_w4 := any_own b_w4 s2_w3
    have s3_w4 := any_own b_w4 s3_w3
    have s4_w4 := any_own b_w4 s4_w3
    have r0_w4 := own_row s0_w4
    have f0_w4 := own_free s0_w4
    have l0_w4 := own_lt s0_w4
    have r1_w4 := own_row s1_w4
    have f1_w4 := own_free s1_w4
    have l1_w4 := own_lt s1_w4
    have r2_w4 := own_row s2_w4
    have f2_w4 := own_free s2_w4
    have l2_w4 := own_lt s2_w4
    have r3_w4 := own_row s3_w4
    have f3_w4 := own_free s3_w4
    have l3_w4 := own_lt s3_w4
    have r4_w4 := own_row s4_w4
    have f4_w4 := own_free s4_w4
    have l4_w4 := own_lt s4_w4
    (try clear r0_w3); (try clear f0_w3)
    (try clear r1_w3); (try clear f1_w3)
    (try clear r2_w3); (try clear f2_w3)
    (try clear r3_w3); (try clear f3_w3)
    (try clear r4_w3); (try clear f4_w3)
    go_wp2_with fail
    go_ret
    refine ⟨rfl, (Stays.setCell (S := fun q => q = gh) (b := gh) (Stays.setCell (S := fun q => q = gh) (b := gh) (Stays.setCell (S := fun q => q = gh) (b := gh) (Stays.of a_w4) rfl _) rfl _) rfl _), ?_⟩
    ((repeat (first | with_reducible assumption | ((with_reducible apply heap_new); (try simp only [World.size_alloc, World.size_setCell, World.size_drew, World.heap_drewN]); done) | ((with_reducible apply heap_new); (try simp only [World.size_alloc, World.size_setCell, World.size_drew, World.heap_drewN]); omega) | (with_reducible refine heap_old (by (try simp only [World.size_alloc, World.size_setCell, World.size_drew, World.heap_drewN]); omega) ?_) | (with_reducible refine heap_drew ?_) | (with_reducible refine heap_far (by omega) ?_) | (with_reducible apply heap_at))); all_goals rfl)
theorem Tls.pre {l a b : Qs} (h : Tls l) (hl : l.length ≤ 90000) (e : l = a ++ b) : (0 ≤ (a.length : Int) ∧ (a.length : Int) ≤ 9000000000000) ∧ (0 ≤ tlR a ∧ tlR a ≤ 9000000000000) ∧ 0 ≤ tlH a ∧ tlH a ≤ 9000000000000 := by
  have h1 : Tls a := by rw [e] at h; exact h.left
  have h2 := h1.sums
  have h3 : a.length ≤ 90000 := by have := congrArg List.length e; rw [List.length_append] at this; omega
  omega
set_option maxRecDepth 100000 in
theorem seek_idx0 (W : World) (ga gw gh g6 g7 b cap : Nat) (a : Int) (l p1 p2 q : Qs) (x y : Int) (w : World) (hW : AnyLater W w) (hg : W.heap.size ≤ gh) (na : ga ≠ gh) (nw : gw ≠ gh) (n6 : g6 ≠ gh) (n7 : g7 ≠ gh) (ho : OQ 61 W 0 (.slice (some ⟨b, 0, none⟩) l.length cap) l)
    (h0 : w.heap[ga]? = some (.cells #[.int .i64 a] 3)) (h1 : w.heap[gw]? = some (.cells #[.int .i64 0] 3)) (h2 : w.heap[g6]? = some (.cells #[.int .i64 0, .int .i64 0] 61)) (h3 : w.heap[g7]? = some (.cells #[.int .i64 0, .int .i64 0, .int .i64 0] 206)) (h4 : w.heap[gh]? = some (.cells #[.int .i64 (p1.length : Int), .int .i64 (tlR p1), .int .i64 (tlH p1)] 206))
    (hl : l = p2 ++ (x, y) :: q) (hT : Tls (p1 ++ l)) (hm : (p1 ++ l).length ≤ 90000) (c1 : tlC 0 (p1 ++ p2) ≤ a) (c2 : a < tlC 0 (p1 ++ p2 ++ [(x, y)])) :
    Calls Tryz.prog 208 #[.slice (some ⟨b, 0, none⟩) l.length cap, .func (.func 209) #[] #[.pointer (some ⟨gh, 0, none⟩), .pointer (some ⟨ga, 0, none⟩), .pointer (some ⟨gw, 0, none⟩)]] w fun e w' => e = .returned (.int .i64 (p2.length : Int)) ∧ AnyLater W w' ∧ w'.heap[g6]? = some (.cells #[.int .i64 0, .int .i64 0] 61) ∧ w'.heap[g7]? = some (.cells #[.int .i64 0, .int .i64 0, .int .i64 0] 206) ∧ w'.heap[gh]? = some (.cells #[.int .i64 ((p1 ++ p2).length : Int), .int .i64 (tlR (p1 ++ p2)), .int .i64 (tlH (p1 ++ p2))] 206) := by
  have hs : p2.length < l.length := by rw [hl]; simp
  have step : ∀ (j : Nat) (h : j < l.length), p1 ++ l.take (j + 1) = (p1 ++ l.take j) ++ [l[j]] := fun j h => by rw [List.take_succ_eq_append_getElem h, List.append_assoc]
  have bnd : ∀ j : Nat, _ := fun j => Tls.pre (a := p1 ++ l.take j) (b := l.drop j) hT hm (by rw [List.append_assoc, List.take_append_drop])
  have tk : l.take p2.length = p2 := by rw [hl]; simp
  have at2 : l[p2.length] = (x, y) := by simp [hl]
  refine tlindex_found _ _ _ l p2.length w
    (fun j z => AnyLater W z ∧ z.heap[ga]? = some (.cells #[.int .i64 a] 3) ∧ z.heap[gw]? = some (.cells #[.int .i64 0] 3) ∧ z.heap[g6]? = some (.cells #[.int .i64 0, .int .i64 0] 61) ∧ z.heap[g7]? = some (.cells #[.int .i64 0, .int .i64 0, .int .i64 0] 206) ∧ z.heap[gh]? = some (.cells #[.int .i64 ((p1 ++ l.take j).length : Int), .int .i64 (tlR (p1 ++ l.take j)), .int .i64 (tlH (p1 ++ l.take j))] 206))
    (fun z => AnyLater W z ∧ z.heap[g6]? = some (.cells #[.int .i64 0, .int .i64 0] 61) ∧ z.heap[g7]? = some (.cells #[.int .i64 0, .int .i64 0, .int .i64 0] 206) ∧ z.heap[gh]? = some (.cells #[.int .i64 ((p1 ++ p2).length : Int), .int .i64 (tlR (p1 ++ p2)), .int .i64 (tlH (p1 ++ p2))] 206))
    hs (by rw [List.length_append] at hm; omega) ⟨hW, h0, h1, h2, h3, by simpa using h4⟩ (fun j z hz => (OQ.rq ho).later hz.1) (enters_of Tryz.func209 (by kernel_rfl) rfl) (fun j h z hz => ?_) (fun z hz => ?_)
  · obtain ⟨k1, k2, k3, k4, k5, k6⟩ := hz
    have hj : j < l.length := by omega
    obtain ⟨e0, e1, e2⟩ := cnts_step (p1 ++ l.take j) l[j]
    have e := step j hj
    have b1 := bnd (j + 1)
    have hc : ¬ a < tlC 0 (p1 ++ l.take (j + 1)) := by
      have e3 : p1 ++ p2 = (p1 ++ l.take (j + 1)) ++ p2.drop (j + 1) := by
        have : l.take (j + 1) = p2.take (j + 1) := by rw [hl, List.take_append_of_le_length (by omega)]
        rw [this, List.append_assoc, List.take_append_drop]
      have h5 : Tls (p2.drop (j + 1)) := fun u hu => hT u (by rw [hl]; simp [List.mem_of_mem_drop hu])
      rw [e3, tlC_append] at c1
      have := h5.cnt 0
      omega
    refine (seekf_no0 ga gw gh a l[j].1 l[j].2 _ _ _ ((p1 ++ l.take (j + 1)).length : Int) (tlR (p1 ++ l.take (j + 1))) (tlH (p1 ++ l.take (j + 1))) z k2 k3 k6 (by rw [e, e0]; omega) (by rw [e, e1]) (by rw [e, e2]) b1.1 b1.2.1 b1.2.2 hc).mono ?_
    rintro e w' ⟨rfl, st, hb⟩
    exact ⟨rfl, st.any k1 (fun k hk => by rw [hk]; exact hg), st.own k2 na, st.own k3 nw, st.own k4 n6, st.own k5 n7, hb⟩
  · obtain ⟨k1, k2, k3, k4, k5, k6⟩ := hz
    obtain ⟨e0, e1, e2⟩ := cnts_step (p1 ++ l.take p2.length) l[p2.length]
    have e := step p2.length hs
    have b1 := bnd (p2.length + 1)
    have hc : a < tlC 0 (p1 ++ l.take (p2.length + 1)) := by rw [e, tk, at2]; exact c2
    refine (seekf_yes0 ga gw gh a l[p2.length].1 l[p2.length].2 _ _ _ ((p1 ++ l.take (p2.length + 1)).length : Int) (tlR (p1 ++ l.take (p2.length + 1))) (tlH (p1 ++ l.take (p2.length + 1))) z k2 k3 k6 (by rw [e, e0]; omega) (by rw [e, e1]) (by rw [e, e2]) b1.1 b1.2.1 b1.2.2 hc).mono ?_
    rintro e w' ⟨rfl, st⟩
    rw [tk] at k6
    exact ⟨rfl, k1.trans st, any_own st k4, any_own st k5, any_own st k6⟩
set_option maxRecDepth 100000 in
set_option maxHeartbeats 3200000 in
theorem hseek0 (t : Ht) (v : Value) (a : Int) (pre post : Qs) (x y : Int) (w : World) (h : isH B t v w) (hf : t.Fit) (he : t.hs = pre ++ (x, y) :: post) (h1 : tlC 0 pre ≤ a) (h2 : a < tlC 0 (pre ++ [(x, y)])) :
    Calls Tryz.prog 166 #[v, .int .i64 a, .int .i64 0] w fun e w' => e = .returned (.tuple #[.agg #[.int .i64 x, .int .i64 y], .agg #[.int .i64 (pre.length : Int), .int .i64 (tlR pre), .int .i64 (tlH pre)]]) ∧ AnyLater w w' := by
  have hn : t ≠ .nil := fun e => by rw [e] at he; simp [Ht.hs] at he
  have HF := Lib.hid (And.intro hf (And.intro he (And.intro h1 h2)))
  have H0 := Lib.hid (And.intro h hn)
  obtain ⟨k0, rfl⟩ := h.there hn
  clear h hf he h1 h2 hn
  go_enter Tryz.func166, Tryz.ntmps166
  go_wp2_with fail
  first | refine settle_wp (fun wS => AnyLater w wS ∧ wS.heap[w.heap.size]? = some (.cells #[.int .i64 a] 3) ∧ wS.heap[w.heap.size + 1]? = some (.cells #[.int .i64 0] 3) ∧ wS.heap[w.heap.size + 1 + 1]? = some (.cells #[.int .i64 0, .int .i64 0] 61) ∧ wS.heap[w.heap.size + 1 + 1 + 1]? = some (.cells #[.int .i64 0, .int .i64 0, .int .i64 0] 206) ∧ wS.heap[w.heap.size + 1 + 1 + 1 + 1]? = some (.cells #[.int .i64 0, .int .i64 0, .int .i64 0] 206)) ?_ ?_ | refine settle_calls (fun wS => AnyLater w wS ∧ wS.heap[w.heap.size]? = some (.cells #[.int .i64 a] 3) ∧ wS.heap[w.heap.size + 1]? = some (.cells #[.int .i64 0] 3) ∧ wS.heap[w.heap.size + 1 + 1]? = some (.cells #[.int .i64 0, .int .i64 0] 61) ∧ wS.heap[w.heap.size + 1 + 1 + 1]? = some (.cells #[.int .i64 0, .int .i64 0, .int .i64 0] 206) ∧ wS.heap[w.heap.size + 1 + 1 + 1 + 1]? = some (.cells #[.int .i64 0, .int .i64 0, .int .i64 0] 206)) ?_ ?_
  · refine ⟨?_, ?_, ?_, ?_, ?_, ?_⟩
    · repeat' (first | with_reducible assumption | with_reducible exact AnyLater.refl _ | with_reducible apply AnyLater.setCell | with_reducible apply AnyLater.later | with_reducible apply AnyLater.drewN | with_reducible apply AnyLater.drew | with_reducible apply AnyLater.alloc | ((try simp only [World.size_alloc, World.size_setCell, World.size_drew]); (try dsimp only); omega))
    · ((repeat (first | with_reducible assumption | ((with_reducible apply heap_new); (try simp only [World.size_alloc, World.size_setCell, World.size_drew, World.heap_drewN]); done) | ((with_reducible apply heap_new); (try simp only [World.size_alloc, World.size_setCell, World.size_drew, World.heap_drewN]); omega) | (with_reducible refine heap_old (by (try simp only [World.size_alloc, World.size_setCell, World.size_drew, World.heap_drewN]); omega) ?_) | (with_reducible refine heap_drew ?_) | (with_reducible refine heap_far (by omega) ?_) | (with_reducible apply heap_at))); all_goals rfl)
    · ((repeat (first | with_reducible assumption | ((with_reducible apply heap_new); (try simp only [World.size_alloc, World.size_setCell, World.size_drew, World.heap_drewN]); done) | ((with_reducible apply heap_new); (try simp only [World.size_alloc, World.size_setCell, World.size_drew, World.heap_drewN]); omega) | (with_reducible refine heap_old (by (try simp only [World.size_alloc, World.size_setCell, World.size_drew, World.heap_drewN]); omega) ?_) | (with_reducible refine heap_drew ?_) | (with_reducible refine heap_far (by omega) ?_) | (with_reducible apply heap_at))); all_goals rfl)
    · ((repeat (first | with_reducible assumption | ((with_reducible apply heap_new); (try simp only [World.size_alloc, World.size_setCell, World.size_drew, World.heap_drewN]); done) | ((with_reducible apply heap_new); (try simp only [World.size_alloc, World.size_setCell, World.size_drew, World.heap_drewN]); omega) | (with_reducible refine heap_old (by (try simp only [World.size_alloc, World.size_setCell, World.size_drew, World.heap_drewN]); omega) ?_) | (with_reducible refine heap_drew ?_) | (with_reducible refine heap_far (by omega) ?_) | (with_reducible apply heap_at))); all_goals rfl)
    · ((repeat (first | with_reducible assumption | ((with_reducible apply heap_new); (try simp only [World.size_alloc, World.size_setCell, World.size_drew, World.heap_drewN]); done) | ((with_reducible apply heap_new); (try simp only [World.size_alloc, World.size_setCell, World.size_drew, World.heap_drewN]); omega) | (with_reducible refine heap_old (by (try simp only [World.size_alloc, World.size_setCell, World.size_drew, World.heap_drewN]); omega) ?_) | (with_reducible refine heap_drew ?_) | (with_reducible refine heap_far (by omega) ?_) | (with_reducible apply heap_at))); all_goals rfl)
    · ((repeat (first | with_reducible assumption | ((with_reducible apply heap_new); (try simp only [World.size_alloc, World.size_setCell, World.size_drew, World.heap_drewN]); done) | ((with_reducible apply heap_new); (try simp only [World.size_alloc, World.size_setCell, World.size_drew, World.heap_drewN]); omega) | (with_reducible refine heap_old (by (try simp only [World.size_alloc, World.size_setCell, World.size_drew, World.heap_drewN]); omega) ?_) | (with_reducible refine heap_drew ?_) | (with_reducible refine heap_far (by omega) ?_) | (with_reducible apply heap_at))); all_goals rfl)
  rintro w1 ⟨b_w1, s0_w1, s1_w1, s2_w1, s3_w1, s4_w1⟩
  have a_w1 := b_w1
  have r0_w1 := own_row s0_w1
  have f0_w1 := own_free s0_w1
  have l0_w1 := own_lt s0_w1
  have r1_w1 := own_row s1_w1
  have f1_w1 := own_free s1_w1
  have l1_w1 := own_lt s1_w1
  have r2_w1 := own_row s2_w1
  have f2_w1 := own_free s2_w1
  have l2_w1 := own_lt s2_w1
  have r3_w1 := own_row s3_w1
  have f3_w1 := own_free s3_w1
  have l3_w1 := own_lt s3_w1
  have r4_w1 := own_row s4_w1
  have f4_w1 := own_free s4_w1
  have l4_w1 := own_lt s4_w1
  have z_w1 := b_w1.below.size
  go_loopg [0] t.np (fun kk nv wr => ∃ (s : Ht) (p1 p2 q rest : Qs), kk = s.np ∧ Hid (isH B s nv w ∧ s ≠ .nil ∧ s.Fit ∧ pre = p1 ++ p2 ∧ s.hs = p2 ++ (x, y) :: q ∧ t.hs = p1 ++ s.hs ++ rest) ∧ AnyLater w wr ∧ wr.heap[w.heap.size]? = some (.cells #[.int .i64 a] 3) ∧ wr.heap[w.heap.size + 1]? = some (.cells #[.int .i64 0] 3) ∧ wr.heap[w.heap.size + 1 + 1]? = some (.cells #[.int .i64 0, .int .i64 0] 61) ∧ wr.heap[w.heap.size + 1 + 1 + 1]? = some (.cells #[.int .i64 0, .int .i64 0, .int .i64 0] 206) ∧ wr.heap[w.heap.size + 1 + 1 + 1 + 1]? = some (.cells #[.int .i64 (p1.length : Int), .int .i64 (tlR p1), .int .i64 (tlH p1)] 206))
  case atStart => exact ⟨t, [], pre, post, [], rfl, Lib.hid ⟨H0.out.1, H0.out.2, HF.out.1, rfl, HF.out.2.1, by simp⟩, a_w1, s0_w1, s1_w1, s2_w1, s3_w1, s4_w1⟩
  case round =>
    obtain ⟨s, p1, p2, q, rest, rfl, HI, a_wr, s0_wr, s1_wr, s2_wr, s3_wr, s4_wr⟩ := hrel
    clear s0_w1 s1_w1 s2_w1 s3_w1 s4_w1 r0_w1 r1_w1 r2_w1 r3_w1 r4_w1 f0_w1 f1_w1 f2_w1 f3_w1 f4_w1 l0_w1 l1_w1 l2_w1 l3_w1 l4_w1
    have z_wr := a_wr.below.size
    have r0_wr := own_row s0_wr
    have r1_wr := own_row s1_wr
    have r2_wr := own_row s2_wr
    have r3_wr := own_row s3_wr
    have r4_wr := own_row s4_wr
    have f2_wr := own_free s2_wr
    have f3_wr := own_free s3_wr
    have f4_wr := own_free s4_wr
    have l0_wr := own_lt s0_wr
    have l1_wr := own_lt s1_wr
    have l2_wr := own_lt s2_wr
    have l3_wr := own_lt s3_wr
    have l4_wr := own_lt s4_wr
    cases s with
    | nil => exact absurd rfl HI.out.2.1
    | leaf b l =>
      obtain ⟨k, cap, e0, hk, ho⟩ := HI.out.1.leaf
      subst e0
      have hnum : (p1 ++ l).length ≤ 90000 ∧ Tls (p1 ++ l) := by
        have e1 := HI.out.2.2.2.2.2
        have e2 := HF.out.1.most
        have e3 := HF.out.1.tls
        rw [e1] at e2 e3
        rw [Ht.hs] at e2 e3
        exact ⟨by rw [List.length_append] at e2; omega, e3.left⟩
      have hl5 : l = p2 ++ (x, y) :: q := HI.out.2.2.2.2.1
      have hpre : pre = p1 ++ p2 := HI.out.2.2.2.1
      have HX := Lib.hid (fun (w' : World) (e : AnyLater w w') => seek_idx0 w w.heap.size (w.heap.size + 1) (w.heap.size + 1 + 1 + 1 + 1) (w.heap.size + 1 + 1) (w.heap.size + 1 + 1 + 1) b cap a l p1 p2 q x y w' e (by omega) (by omega) (by omega) (by omega) (by omega) ho)
      have HX2 := Lib.hid (And.intro hl5 (And.intro hnum.2 (And.intro hnum.1 HF.out.2.2)))
      obtain ⟨bb, off, e7, hb7, c0, c1⟩ := (OQ.rq ho).at p2.length (by rw [hl5]; simp)
      cases e7
      have at2 : l[p2.length]'(by rw [hl5]; simp) = (x, y) := by simp [hl5]
      rw [at2] at c0 c1
      simp only [Nat.zero_add] at c0 c1
      have ln : p2.length < l.length := by rw [hl5]; simp
      unfold hnodeC at hk
      have s5_wr := any_own a_wr hk
      have r5_wr := own_row s5_wr
      have l5_wr := own_lt s5_wr
      have HK := Lib.hid hk
      rw [← hpre] at HX
      clear hk ho hl5 at2 hnum
      generalize l.length = n at *
      generalize p2.length = m at *
      go_wp2_with fail
      refine (HX.out wr a_wr s0_wr s1_wr s2_wr s3_wr s4_wr HX2.out.1 HX2.out.2.1 HX2.out.2.2.1 HX2.out.2.2.2.1 HX2.out.2.2.2.2).mono ?_
      rintro e w6 ⟨rfl, a_w6, s2_w6, s3_w6, s4_w6⟩
      have s5_w6 := any_own a_w6 HK.out
      have r2_w6 := own_row s2_w6
      have r3_w6 := own_row s3_w6
      have r4_w6 := own_row s4_w6
      have r5_w6 := own_row s5_w6
      have f2_w6 := own_free s2_w6
      have f3_w6 := own_free s3_w6
      have l2_w6 := own_lt s2_w6
      have l3_w6 := own_lt s3_w6
      have l4_w6 := own_lt s4_w6
      have l5_w6 := own_lt s5_w6
      have c0 := (a_w6.below.cell hb7).trans c0
      have c1 := (a_w6.below.cell hb7).trans c1
      clear s0_wr s1_wr s2_wr s3_wr s4_wr s5_wr r0_wr r1_wr r2_wr r3_wr r4_wr r5_wr f2_wr f3_wr f4_wr l0_wr l1_wr l2_wr l3_wr l4_wr l5_wr a_wr z_wr
      go_wp2_with fail
      go_region
      go_wp2_with fail
      refine bodyPost_ret (v := .tuple #[.agg #[.int .i64 x, .int .i64 y], .agg #[.int .i64 (pre.length : Int), .int .i64 (tlR pre), .int .i64 (tlH pre)]]) (by simp [results, Tryz.results166, go_sem, *]) rfl ⟨rfl, ?_⟩
      repeat' (first | with_reducible assumption | with_reducible exact AnyLater.refl _ | with_reducible apply AnyLater.setCell | with_reducible apply AnyLater.later | with_reducible apply AnyLater.drewN | with_reducible apply AnyLater.drew | with_reducible apply AnyLater.alloc | ((try simp only [World.size_alloc, World.size_setCell, World.size_drew]); (try dsimp only); omega))
    | node l r =>
      obtain ⟨k, lv, rv, e0, nl, nr, hk, hl, hr⟩ := HI.out.1.node
      subst e0
      have HL : Hid (isH B l lv w ∧ isH B r rv w ∧ l ≠ .nil ∧ r ≠ .nil ∧ l.Fit ∧ r.Fit) := Lib.hid ⟨hl, hr, nl, nr, HI.out.2.2.1.left, HI.out.2.2.1.right⟩
      obtain ⟨k1, a0, a1, a2, rfl, hk1⟩ := hl.noted nl
      obtain ⟨k2, rfl⟩ := hr.there nr
      unfold hnodeC at hk hk1
      have s5_wr := any_own a_wr hk
      have s6_wr := any_own a_wr hk1
      have r5_wr := own_row s5_wr
      have r6_wr := own_row s6_wr
      have l5_wr := own_lt s5_wr
      have l6_wr := own_lt s6_wr
      have l5_w := own_lt hk
      have l6_w := own_lt hk1
      clear hk hk1 hl hr nl nr
      have hb := Tls.pre (a := p1 ++ l.hs) (b := r.hs ++ rest) HF.out.1.tls HF.out.1.most (by rw [HI.out.2.2.2.2.2, Ht.hs]; simp)
      rw [List.length_append, tlR_append, tlH_append] at hb
      have HA := Lib.hid (fun w => and_any (p1.length : Int) (tlR p1) (tlH p1) (l.hs.length : Int) (tlR l.hs) (tlH l.hs) ((p1.length + l.hs.length : Nat) : Int) (tlR p1 + tlR l.hs) (tlH p1 + tlH l.hs) w (by omega) rfl rfl hb.1 hb.2.1 hb.2.2)
      have hsplit : (p2.length < l.hs.length ∧ ∃ q', l.hs = p2 ++ (x, y) :: q') ∨ (∃ p3, p2 = l.hs ++ p3 ∧ r.hs = p3 ++ (x, y) :: q) := by
        have e := HI.out.2.2.2.2.1
        rw [Ht.hs] at e
        rcases List.append_eq_append_iff.1 e with ⟨a', h1, h2⟩ | ⟨c', h1, h2⟩
        · exact .inr ⟨a', h1, h2⟩
        · cases c' with
          | nil => exact .inr ⟨[], by simpa using h1.symm, by simpa using h2.symm⟩
          | cons z c' =>
            rw [List.cons_append] at h2
            cases h2
            exact .inl ⟨by rw [h1]; simp, c', h1⟩
      have HM : Hid (tlC 0 (p1 ++ l.hs) = ((p1.length + l.hs.length : Nat) : Int)) := Lib.hid (by show ((p1 ++ l.hs).length : Int) = _; rw [List.length_append])
      obtain ⟨N1, hN1⟩ : ∃ N1, ((p1.length + l.hs.length : Nat) : Int) = N1 := ⟨_, rfl⟩
      obtain ⟨R1, hR1⟩ : ∃ R1, tlR p1 + tlR l.hs = R1 := ⟨_, rfl⟩
      obtain ⟨H1, hH1⟩ : ∃ H1, tlH p1 + tlH l.hs = H1 := ⟨_, rfl⟩
      have HNum : Hid (((p1 ++ l.hs).length : Int) = N1 ∧ tlR (p1 ++ l.hs) = R1 ∧ tlH (p1 ++ l.hs) = H1) := Lib.hid ⟨by rw [← hN1, List.length_append], by rw [← hR1, tlR_append], by rw [← hH1, tlH_append]⟩
      rw [hN1, hR1, hH1] at HA
      rw [hN1] at HM
      clear hN1 hR1 hH1 hb
      have hT1 := HF.out.1.tls
      rcases hsplit with ⟨hlt, q', hq⟩ | ⟨p3, hp, hq⟩
      · have hc : a < N1 := by
          rw [← HM.out]
          have e1 : p1 ++ l.hs = (pre ++ [(x, y)]) ++ q' := by rw [hq, HI.out.2.2.2.1]; simp
          have hq1 : Tls q' := by
            rw [HI.out.2.2.2.2.2, Ht.hs, hq] at hT1
            exact fun z hz => hT1 z (by simp [hz])
          rw [e1, tlC_append]
          have := hq1.cnt 0
          have := HF.out.2.2.2
          omega
        have HQ := Lib.hid hq
        have d : decide (a < N1) = true := decide_eq_true hc
        clear hT1 hlt hq HM hc
        go_wp2_with fail
        apply wp_region_free (11) [⟨9, 26, .agg #[.int .i64 N1, .int .i64 R1, .int .i64 H1], false, fun v _ => v = .agg #[.int .i64 N1, .int .i64 R1, .int .i64 H1]⟩, ⟨10, 9, undef, true, isVar (.cells #[.int .i64 0, .int .i64 0, .int .i64 0] 206)⟩] [⟨10, 9, isVar (.cells #[.int .i64 0, .int .i64 0, .int .i64 0] 206)⟩] rfl (by kernel_rfl) (by kernel_rfl) (by kernel_rfl) (by simp) (by kernel_rfl)
        case hstab =>
          intro c hc
          simp only [List.mem_cons, List.not_mem_nil, or_false] at hc
          rcases hc with rfl | rfl
          · intro v x y hxy hv; exact hv
          · intro v x y hxy hv; exact isVar_stays hxy hv
        case hfix =>
          intro c hc
          simp only [List.mem_cons, List.not_mem_nil, or_false] at hc
          rcases hc with rfl | rfl
          · exact .inr fun u x h => h
          · exact .inl rfl
        case hlex =>
          intro U hU
          have q0 := own_row (any_own hU s0_wr)
          have q1 := own_row (any_own hU s1_wr)
          have q2 := own_row (any_own hU s2_wr)
          have q3 := own_row (any_own hU s3_wr)
          have q4 := own_row (any_own hU s4_wr)
          have q5 := own_row (any_own hU s5_wr)
          have q6 := own_row (any_own hU s6_wr)
          simp only [List.map_cons, List.map_nil, CA.act, actFrom, actOp, List.lookup, Nat.reduceBEq, Nat.reduceLeDiff, Nat.reduceAdd, if_false, if_true]
          repeat (go_big_quiet_step (fail))
          exact wpQuiet_nil rfl
        case hstep =>
          intro j hj o ho
          have hj2 : j = 0 ∨ j = 1 := by simp at hj; omega
          rcases hj2 with rfl | rfl
          · cases ho
            refine ⟨rfl, fun g x hx hp => ?_⟩
            clear hp
            simp only [fillAll, Act.put, List.setIfInBounds_toArray, List.set_cons_zero, List.set_cons_succ]
            refine chain_go ?_ (free_fix (HA.out x))
            first | (simp [go_sem, execOp]; done) | simp [go_sem, execOp, hcf]
          · cases ho
            refine ⟨rfl, fun g x hx hp => ?_⟩
            exact free_var (fun r x => by simp [go_sem, execOp])
        case htail =>
          intro g u hst hne
          have b_w2 : AnyLater wr (later u) := ⟨u, rfl⟩
          generalize later u = w2 at *
          clear u
          obtain ⟨⟨b9, e9, s7_w2⟩, o9_w2⟩ := hst _ (List.mem_of_getElem? (i := 0) rfl)
          dsimp only at e9 o9_w2
          have o9_w2 := o9_w2 b9 (by rw [e9]; rfl)
          clear hst hne
          simp only [fillAll, Act.put, List.setIfInBounds_toArray, List.set_cons_zero, List.set_cons_succ, List.drop_succ_cons, List.drop_zero, List.drop_nil]
          rw [e9]
          clear e9
          have z_w2 := b_w2.below.size
          have a_w2 := a_wr.trans b_w2
          have s0_w2 := any_own b_w2 s0_wr
          have s1_w2 := any_own b_w2 s1_wr
          have s2_w2 := any_own b_w2 s2_wr
          have s3_w2 := any_own b_w2 s3_wr
          have s4_w2 := any_own b_w2 s4_wr
          have s5_w2 := any_own b_w2 s5_wr
          have s6_w2 := any_own b_w2 s6_wr
          have r0_w2 := own_row s0_w2
          have f0_w2 := own_free s0_w2
          have l0_w2 := own_lt s0_w2
          have r1_w2 := own_row s1_w2
          have f1_w2 := own_free s1_w2
          have l1_w2 := own_lt s1_w2
          have r2_w2 := own_row s2_w2
          have f2_w2 := own_free s2_w2
          have l2_w2 := own_lt s2_w2
          have r3_w2 := own_row s3_w2
          have f3_w2 := own_free s3_w2
          have l3_w2 := own_lt s3_w2
          have r4_w2 := own_row s4_w2
          have f4_w2 := own_free s4_w2
          have l4_w2 := own_lt s4_w2
          have r5_w2 := own_row s5_w2
          have f5_w2 := own_free s5_w2
          have l5_w2 := own_lt s5_w2
          have r6_w2 := own_row s6_w2
          have f6_w2 := own_free s6_w2
          have l6_w2 := own_lt s6_w2
          (try clear r0_wr); (try clear f0_wr)
          (try clear r1_wr); (try clear f1_wr)
          (try clear r2_wr); (try clear f2_wr)
          (try clear r3_wr); (try clear f3_wr)
          (try clear r4_wr); (try clear f4_wr)
          (try clear r5_wr); (try clear f5_wr)
          (try clear r6_wr); (try clear f6_wr)
          have r7_w2 := own_row s7_w2
          have f7_w2 := own_free s7_w2
          have l7_w2 := own_lt s7_w2
          go_wp2_with fail
          first | refine settle_wp (fun wS => AnyLater wr wS ∧ wS.heap[b9]? = some (.cells #[.int .i64 N1, .int .i64 R1, .int .i64 H1] 206)) ?_ ?_ | refine settle_calls (fun wS => AnyLater wr wS ∧ wS.heap[b9]? = some (.cells #[.int .i64 N1, .int .i64 R1, .int .i64 H1] 206)) ?_ ?_
          · refine ⟨?_, ?_⟩
            · repeat' (first | with_reducible assumption | with_reducible exact AnyLater.refl _ | with_reducible apply AnyLater.setCell | with_reducible apply AnyLater.later | with_reducible apply AnyLater.drewN | with_reducible apply AnyLater.drew | with_reducible apply AnyLater.alloc | ((try simp only [World.size_alloc, World.size_setCell, World.size_drew]); (try dsimp only); omega))
            · ((repeat (first | with_reducible assumption | ((with_reducible apply heap_new); (try simp only [World.size_alloc, World.size_setCell, World.size_drew, World.heap_drewN]); done) | ((with_reducible apply heap_new); (try simp only [World.size_alloc, World.size_setCell, World.size_drew, World.heap_drewN]); omega) | (with_reducible refine heap_old (by (try simp only [World.size_alloc, World.size_setCell, World.size_drew, World.heap_drewN]); omega) ?_) | (with_reducible refine heap_drew ?_) | (with_reducible refine heap_far (by omega) ?_) | (with_reducible apply heap_at))); all_goals rfl)
          rintro w3 ⟨b_w3, s7_w3⟩
          have a_w3 := a_wr.trans b_w3
          have s0_w3 := any_own b_w3 s0_wr
          have s1_w3 := any_own b_w3 s1_wr
          have s2_w3 := any_own b_w3 s2_wr
          have s3_w3 := any_own b_w3 s3_wr
          have s4_w3 := any_own b_w3 s4_wr
          have s5_w3 := any_own b_w3 s5_wr
          have s6_w3 := any_own b_w3 s6_wr
          have r0_w3 := own_row s0_w3
          have f0_w3 := own_free s0_w3
          have l0_w3 := own_lt s0_w3
          have r1_w3 := own_row s1_w3
          have f1_w3 := own_free s1_w3
          have l1_w3 := own_lt s1_w3
          have r2_w3 := own_row s2_w3
          have f2_w3 := own_free s2_w3
          have l2_w3 := own_lt s2_w3
          have r3_w3 := own_row s3_w3
          have f3_w3 := own_free s3_w3
          have l3_w3 := own_lt s3_w3
          have r4_w3 := own_row s4_w3
          have f4_w3 := own_free s4_w3
          have l4_w3 := own_lt s4_w3
          have r5_w3 := own_row s5_w3
          have f5_w3 := own_free s5_w3
          have l5_w3 := own_lt s5_w3
          have r6_w3 := own_row s6_w3
          have f6_w3 := own_free s6_w3
          have l6_w3 := own_lt s6_w3
          (try clear r0_wr); (try clear f0_wr)
          (try clear r1_wr); (try clear f1_wr)
          (try clear r2_wr); (try clear f2_wr)
          (try clear r3_wr); (try clear f3_wr)
          (try clear r4_wr); (try clear f4_wr)
          (try clear r5_wr); (try clear f5_wr)
          (try clear r6_wr); (try clear f6_wr)
          have r7_w3 := own_row s7_w3
          have f7_w3 := own_free s7_w3
          have l7_w3 := own_lt s7_w3
          have z_w3 := b_w3.below.size
          go_quiet (fail)
          generalize hw4 : w3.drewN nq = w4
          have b_w4 : AnyLater w3 w4 := by rw [← hw4]; exact (AnyLater.refl _).drewN _
          clear hw4
          have z_w4 := b_w4.below.size
          have a_w4 := a_w3.trans b_w4
          have s0_w4 := any_own b_w4 s0_w3
          have s1_w4 := any_own b_w4 s1_w3
          have s2_w4 := any_own b_w4 s2_w3
          have s3_w4 := any_own b_w4 s3_w3
          have s4_w4 := any_own b_w4 s4_w3
          have s5_w4 := any_own b_w4 s5_w3
          have s6_w4 := any_own b_w4 s6_w3
          have s7_w4 := any_own b_w4 s7_w3
          have r0_w4 := own_row s0_w4
          have f0_w4 := own_free s0_w4
          have l0_w4 := own_lt s0_w4
          have r1_w4 := own_row s1_w4
          have f1_w4 := own_free s1_w4
          have l1_w4 := own_lt s1_w4
          have r2_w4 := own_row s2_w4
          have f2_w4 := own_free s2_w4
          have l2_w4 := own_lt s2_w4
          have r3_w4 := own_row s3_w4
          have f3_w4 := own_free s3_w4
          have l3_w4 := own_lt s3_w4
          have r4_w4 := own_row s4_w4
          have f4_w4 := own_free s4_w4
          have l4_w4 := own_lt s4_w4
          have r5_w4 := own_row s5_w4
          have f5_w4 := own_free s5_w4
          have l5_w4 := own_lt s5_w4
          have r6_w4 := own_row s6_w4
          have f6_w4 := own_free s6_w4
          have l6_w4 := own_lt s6_w4
          have r7_w4 := own_row s7_w4
          have f7_w4 := own_free s7_w4
          have l7_w4 := own_lt s7_w4
          (try clear r0_w3); (try clear f0_w3)
          (try clear r1_w3); (try clear f1_w3)
          (try clear r2_w3); (try clear f2_w3)
          (try clear r3_w3); (try clear f3_w3)
          (try clear r4_w3); (try clear f4_w3)
          (try clear r5_w3); (try clear f5_w3)
          (try clear r6_w3); (try clear f6_w3)
          (try clear r7_w3); (try clear f7_w3)
          go_wp2_with fail
          go_roundg l.np
          case measure => simp only [Ht.np]; omega
          case rel =>
            refine ⟨l, p1, p2, q', r.hs ++ rest, rfl, Lib.hid ⟨HL.out.1, HL.out.2.2.1, HL.out.2.2.2.2.1, HI.out.2.2.2.1, HQ.out, ?_⟩, a_w4, s0_w4, s1_w4, s2_w4, s3_w4, s4_w4⟩
            rw [HI.out.2.2.2.2.2, Ht.hs]; simp
      · have hc : ¬ a < N1 := by
          rw [← HM.out]
          have e1 : pre = (p1 ++ l.hs) ++ p3 := by rw [HI.out.2.2.2.1, hp]; simp
          have hq1 : Tls p3 := by
            rw [HI.out.2.2.2.2.2, Ht.hs, hq] at hT1
            exact fun z hz => hT1 z (by simp [hz])
          have h1 := HF.out.2.2.1
          rw [e1, tlC_append] at h1
          have := hq1.cnt 0
          omega
        have HQ := Lib.hid (And.intro hp hq)
        have d : decide (a < N1) = false := decide_eq_false hc
        have d2 : N1 ≤ a := by omega
        clear hT1 hp hq HM hc
        go_wp2_with fail
        apply wp_region_free (11) [⟨9, 26, .agg #[.int .i64 N1, .int .i64 R1, .int .i64 H1], false, fun v _ => v = .agg #[.int .i64 N1, .int .i64 R1, .int .i64 H1]⟩, ⟨10, 9, undef, true, isVar (.cells #[.int .i64 0, .int .i64 0, .int .i64 0] 206)⟩] [⟨10, 9, isVar (.cells #[.int .i64 0, .int .i64 0, .int .i64 0] 206)⟩] rfl (by kernel_rfl) (by kernel_rfl) (by kernel_rfl) (by simp) (by kernel_rfl)
        case hstab =>
          intro c hc
          simp only [List.mem_cons, List.not_mem_nil, or_false] at hc
          rcases hc with rfl | rfl
          · intro v x y hxy hv; exact hv
          · intro v x y hxy hv; exact isVar_stays hxy hv
        case hfix =>
          intro c hc
          simp only [List.mem_cons, List.not_mem_nil, or_false] at hc
          rcases hc with rfl | rfl
          · exact .inr fun u x h => h
          · exact .inl rfl
        case hlex =>
          intro U hU
          have q0 := own_row (any_own hU s0_wr)
          have q1 := own_row (any_own hU s1_wr)
          have q2 := own_row (any_own hU s2_wr)
          have q3 := own_row (any_own hU s3_wr)
          have q4 := own_row (any_own hU s4_wr)
          have q5 := own_row (any_own hU s5_wr)
          have q6 := own_row (any_own hU s6_wr)
          simp only [List.map_cons, List.map_nil, CA.act, actFrom, actOp, List.lookup, Nat.reduceBEq, Nat.reduceLeDiff, Nat.reduceAdd, if_false, if_true]
          repeat (go_big_quiet_step (fail))
          exact wpQuiet_nil rfl
        case hstep =>
          intro j hj o ho
          have hj2 : j = 0 ∨ j = 1 := by simp at hj; omega
          rcases hj2 with rfl | rfl
          · cases ho
            refine ⟨rfl, fun g x hx hp => ?_⟩
            clear hp
            simp only [fillAll, Act.put, List.setIfInBounds_toArray, List.set_cons_zero, List.set_cons_succ]
            refine chain_go ?_ (free_fix (HA.out x))
            first | (simp [go_sem, execOp]; done) | simp [go_sem, execOp, hcf]
          · cases ho
            refine ⟨rfl, fun g x hx hp => ?_⟩
            exact free_var (fun r x => by simp [go_sem, execOp])
        case htail =>
          intro g u hst hne
          have b_w2 : AnyLater wr (later u) := ⟨u, rfl⟩
          generalize later u = w2 at *
          clear u
          obtain ⟨⟨b9, e9, s7_w2⟩, o9_w2⟩ := hst _ (List.mem_of_getElem? (i := 0) rfl)
          dsimp only at e9 o9_w2
          have o9_w2 := o9_w2 b9 (by rw [e9]; rfl)
          clear hst hne
          simp only [fillAll, Act.put, List.setIfInBounds_toArray, List.set_cons_zero, List.set_cons_succ, List.drop_succ_cons, List.drop_zero, List.drop_nil]
          rw [e9]
          clear e9
          have z_w2 := b_w2.below.size
          have a_w2 := a_wr.trans b_w2
          have s0_w2 := any_own b_w2 s0_wr
          have s1_w2 := any_own b_w2 s1_wr
          have s2_w2 := any_own b_w2 s2_wr
          have s3_w2 := any_own b_w2 s3_wr
          have s4_w2 := any_own b_w2 s4_wr
          have s5_w2 := any_own b_w2 s5_wr
          have s6_w2 := any_own b_w2 s6_wr
          have r0_w2 := own_row s0_w2
          have f0_w2 := own_free s0_w2
          have l0_w2 := own_lt s0_w2
          have r1_w2 := own_row s1_w2
          have f1_w2 := own_free s1_w2
          have l1_w2 := own_lt s1_w2
          have r2_w2 := own_row s2_w2
          have f2_w2 := own_free s2_w2
          have l2_w2 := own_lt s2_w2
          have r3_w2 := own_row s3_w2
          have f3_w2 := own_free s3_w2
          have l3_w2 := own_lt s3_w2
          have r4_w2 := own_row s4_w2
          have f4_w2 := own_free s4_w2
          have l4_w2 := own_lt s4_w2
          have r5_w2 := own_row s5_w2
          have f5_w2 := own_free s5_w2
          have l5_w2 := own_lt s5_w2
          have r6_w2 := own_row s6_w2
          have f6_w2 := own_free s6_w2
          have l6_w2 := own_lt s6_w2
          (try clear r0_wr); (try clear f0_wr)
          (try clear r1_wr); (try clear f1_wr)
          (try clear r2_wr); (try clear f2_wr)
          (try clear r3_wr); (try clear f3_wr)
          (try clear r4_wr); (try clear f4_wr)
          (try clear r5_wr); (try clear f5_wr)
          (try clear r6_wr); (try clear f6_wr)
          have r7_w2 := own_row s7_w2
          have f7_w2 := own_free s7_w2
          have l7_w2 := own_lt s7_w2
          go_wp2_with fail
          first | refine settle_wp (fun wS => AnyLater wr wS ∧ wS.heap[b9]? = some (.cells #[.int .i64 N1, .int .i64 R1, .int .i64 H1] 206)) ?_ ?_ | refine settle_calls (fun wS => AnyLater wr wS ∧ wS.heap[b9]? = some (.cells #[.int .i64 N1, .int .i64 R1, .int .i64 H1] 206)) ?_ ?_
          · refine ⟨?_, ?_⟩
            · repeat' (first | with_reducible assumption | with_reducible exact AnyLater.refl _ | with_reducible apply AnyLater.setCell | with_reducible apply AnyLater.later | with_reducible apply AnyLater.drewN | with_reducible apply AnyLater.drew | with_reducible apply AnyLater.alloc | ((try simp only [World.size_alloc, World.size_setCell, World.size_drew]); (try dsimp only); omega))
            · ((repeat (first | with_reducible assumption | ((with_reducible apply heap_new); (try simp only [World.size_alloc, World.size_setCell, World.size_drew, World.heap_drewN]); done) | ((with_reducible apply heap_new); (try simp only [World.size_alloc, World.size_setCell, World.size_drew, World.heap_drewN]); omega) | (with_reducible refine heap_old (by (try simp only [World.size_alloc, World.size_setCell, World.size_drew, World.heap_drewN]); omega) ?_) | (with_reducible refine heap_drew ?_) | (with_reducible refine heap_far (by omega) ?_) | (with_reducible apply heap_at))); all_goals rfl)
          rintro w3 ⟨b_w3, s7_w3⟩
          have a_w3 := a_wr.trans b_w3
          have s0_w3 := any_own b_w3 s0_wr
          have s1_w3 := any_own b_w3 s1_wr
          have s2_w3 := any_own b_w3 s2_wr
          have s3_w3 := any_own b_w3 s3_wr
          have s4_w3 := any_own b_w3 s4_wr
          have s5_w3 := any_own b_w3 s5_wr
          have s6_w3 := any_own b_w3 s6_wr
          have r0_w3 := own_row s0_w3
          have f0_w3 := own_free s0_w3
          have l0_w3 := own_lt s0_w3
          have r1_w3 := own_row s1_w3
          have f1_w3 := own_free s1_w3
          have l1_w3 := own_lt s1_w3
          have r2_w3 := own_row s2_w3
          have f2_w3 := own_free s2_w3
          have l2_w3 := own_lt s2_w3
          have r3_w3 := own_row s3_w3
          have f3_w3 := own_free s3_w3
          have l3_w3 := own_lt s3_w3
          have r4_w3 := own_row s4_w3
          have f4_w3 := own_free s4_w3
          have l4_w3 := own_lt s4_w3
          have r5_w3 := own_row s5_w3
          have f5_w3 := own_free s5_w3
          have l5_w3 := own_lt s5_w3
          have r6_w3 := own_row s6_w3
          have f6_w3 := own_free s6_w3
          have l6_w3 := own_lt s6_w3
          (try clear r0_wr); (try clear f0_wr)
          (try clear r1_wr); (try clear f1_wr)
          (try clear r2_wr); (try clear f2_wr)
          (try clear r3_wr); (try clear f3_wr)
          (try clear r4_wr); (try clear f4_wr)
          (try clear r5_wr); (try clear f5_wr)
          (try clear r6_wr); (try clear f6_wr)
          have r7_w3 := own_row s7_w3
          have f7_w3 := own_free s7_w3
          have l7_w3 := own_lt s7_w3
          have z_w3 := b_w3.below.size
          go_quiet (fail)
          generalize hw4 : w3.drewN nq = w4
          have b_w4 : AnyLater w3 w4 := by rw [← hw4]; exact (AnyLater.refl _).drewN _
          clear hw4
          have z_w4 := b_w4.below.size
          have a_w4 := a_w3.trans b_w4
          have s0_w4 := any_own b_w4 s0_w3
          have s1_w4 := any_own b_w4 s1_w3
          have s2_w4 := any_own b_w4 s2_w3
          have s3_w4 := any_own b_w4 s3_w3
          have s4_w4 := any_own b_w4 s4_w3
          have s5_w4 := any_own b_w4 s5_w3
          have s6_w4 := any_own b_w4 s6_w3
          have s7_w4 := any_own b_w4 s7_w3
          have r0_w4 := own_row s0_w4
          have f0_w4 := own_free s0_w4
          have l0_w4 := own_lt s0_w4
          have r1_w4 := own_row s1_w4
          have f1_w4 := own_free s1_w4
          have l1_w4 := own_lt s1_w4
          have r2_w4 := own_row s2_w4
          have f2_w4 := own_free s2_w4
          have l2_w4 := own_lt s2_w4
          have r3_w4 := own_row s3_w4
          have f3_w4 := own_free s3_w4
          have l3_w4 := own_lt s3_w4
          have r4_w4 := own_row s4_w4
          have f4_w4 := own_free s4_w4
          have l4_w4 := own_lt s4_w4
          have r5_w4 := own_row s5_w4
          have f5_w4 := own_free s5_w4
          have l5_w4 := own_lt s5_w4
          have r6_w4 := own_row s6_w4
          have f6_w4 := own_free s6_w4
          have l6_w4 := own_lt s6_w4
          have r7_w4 := own_row s7_w4
          have f7_w4 := own_free s7_w4
          have l7_w4 := own_lt s7_w4
          (try clear r0_w3); (try clear f0_w3)
          (try clear r1_w3); (try clear f1_w3)
          (try clear r2_w3); (try clear f2_w3)
          (try clear r3_w3); (try clear f3_w3)
          (try clear r4_w3); (try clear f4_w3)
          (try clear r5_w3); (try clear f5_w3)
          (try clear r6_w3); (try clear f6_w3)
          (try clear r7_w3); (try clear f7_w3)
          go_wp2_with fail
          go_region
          go_wp2_with fail
          go_roundg r.np
          case measure => simp only [Ht.np]; omega
          case rel =>
            refine ⟨r, p1 ++ l.hs, p3, q, rest, rfl, Lib.hid ⟨HL.out.2.1, HL.out.2.2.2.1, HL.out.2.2.2.2.2, ?_, HQ.out.2, ?_⟩, ?_, ?_, ?_, ?_, ?_, ?_⟩
            · rw [HI.out.2.2.2.1, HQ.out.1]; simp
            · rw [HI.out.2.2.2.2.2, Ht.hs]; simp
            · repeat' (first | with_reducible assumption | with_reducible exact AnyLater.refl _ | with_reducible apply AnyLater.setCell | with_reducible apply AnyLater.later | with_reducible apply AnyLater.drewN | with_reducible apply AnyLater.drew | with_reducible apply AnyLater.alloc | ((try simp only [World.size_alloc, World.size_setCell, World.size_drew]); (try dsimp only); omega))
            · ((repeat (first | with_reducible assumption | ((with_reducible apply heap_new); (try simp only [World.size_alloc, World.size_setCell, World.size_drew, World.heap_drewN]); done) | ((with_reducible apply heap_new); (try simp only [World.size_alloc, World.size_setCell, World.size_drew, World.heap_drewN]); omega) | (with_reducible refine heap_old (by (try simp only [World.size_alloc, World.size_setCell, World.size_drew, World.heap_drewN]); omega) ?_) | (with_reducible refine heap_drew ?_) | (with_reducible refine heap_far (by omega) ?_) | (with_reducible apply heap_at))); all_goals rfl)
            · ((repeat (first | with_reducible assumption | ((with_reducible apply heap_new); (try simp only [World.size_alloc, World.size_setCell, World.size_drew, World.heap_drewN]); done) | ((with_reducible apply heap_new); (try simp only [World.size_alloc, World.size_setCell, World.size_drew, World.heap_drewN]); omega) | (with_reducible refine heap_old (by (try simp only [World.size_alloc, World.size_setCell, World.size_drew, World.heap_drewN]); omega) ?_) | (with_reducible refine heap_drew ?_) | (with_reducible refine heap_far (by omega) ?_) | (with_reducible apply heap_at))); all_goals rfl)
            · ((repeat (first | with_reducible assumption | ((with_reducible apply heap_new); (try simp only [World.size_alloc, World.size_setCell, World.size_drew, World.heap_drewN]); done) | ((with_reducible apply heap_new); (try simp only [World.size_alloc, World.size_setCell, World.size_drew, World.heap_drewN]); omega) | (with_reducible refine heap_old (by (try simp only [World.size_alloc, World.size_setCell, World.size_drew, World.heap_drewN]); omega) ?_) | (with_reducible refine heap_drew ?_) | (with_reducible refine heap_far (by omega) ?_) | (with_reducible apply heap_at))); all_goals rfl)
            · ((repeat (first | with_reducible assumption | ((with_reducible apply heap_new); (try simp only [World.size_alloc, World.size_setCell, World.size_drew, World.heap_drewN]); done) | ((with_reducible apply heap_new); (try simp only [World.size_alloc, World.size_setCell, World.size_drew, World.heap_drewN]); omega) | (with_reducible refine heap_old (by (try simp only [World.size_alloc, World.size_setCell, World.size_drew, World.heap_drewN]); omega) ?_) | (with_reducible refine heap_drew ?_) | (with_reducible refine heap_far (by omega) ?_) | (with_reducible apply heap_at))); all_goals rfl)
            · rw [HNum.out.1, HNum.out.2.1, HNum.out.2.2]
              ((repeat (first | with_reducible assumption | ((with_reducible apply heap_new); (try simp only [World.size_alloc, World.size_setCell, World.size_drew, World.heap_drewN]); done) | ((with_reducible apply heap_new); (try simp only [World.size_alloc, World.size_setCell, World.size_drew, World.heap_drewN]); omega) | (with_reducible refine heap_old (by (try simp only [World.size_alloc, World.size_setCell, World.size_drew, World.heap_drewN]); omega) ?_) | (with_reducible refine heap_drew ?_) | (with_reducible refine heap_far (by omega) ?_) | (with_reducible apply heap_at))); all_goals rfl)
end Go.Proofs.YtamhnffokoejjaaGreatDoor
