/- carets: the document's Low, High, Meet, Within, Same by contract. -/
import Derived.Test.YtkobnijjahpifaaDoorCarJ
import Derived.Laws.StructEq
import Derived.Deep.DeepCutAuto
namespace Go.Proofs.YtkobnijjahpifaaDoor
set_option linter.unusedSimpArgs false
set_option linter.unusedVariables false
set_option linter.unusedSectionVars false
open Go.RowKit

theorem low_any (a h : Int) (w : World) (c : Int) (hc : loC (a, h) = c) : Calls Tryd.prog 22 #[.agg #[.int .i64 a, .int .i64 h]] w fun e w' => e = .returned (.int .i64 c) ∧ AnyLater w w' := by
  subst hc
  by_cases d : a < h
  · have Q : Hid (a = loC (a, h)) := Lib.hid (by unfold loC; rw [if_pos d])
    go_enter Tryd.func22, Tryd.ntmps22
    go_wp2_with fail
    go_ret
    exact ⟨cret_i64 Q.out, by repeat' (first | with_reducible assumption | with_reducible exact AnyLater.refl _ | with_reducible apply AnyLater.setCell | with_reducible apply AnyLater.later | with_reducible apply AnyLater.drewN | with_reducible apply AnyLater.drew | with_reducible apply AnyLater.alloc | ((try simp only [World.size_alloc, World.size_setCell, World.size_drew]); (try dsimp only); omega))⟩
  · have Q : Hid (h = loC (a, h)) := Lib.hid (by unfold loC; rw [if_neg d])
    have d' : decide (a < h) = false := decide_eq_false d
    go_enter Tryd.func22, Tryd.ntmps22
    go_wp2_with fail
    go_ret
    exact ⟨cret_i64 Q.out, by repeat' (first | with_reducible assumption | with_reducible exact AnyLater.refl _ | with_reducible apply AnyLater.setCell | with_reducible apply AnyLater.later | with_reducible apply AnyLater.drewN | with_reducible apply AnyLater.drew | with_reducible apply AnyLater.alloc | ((try simp only [World.size_alloc, World.size_setCell, World.size_drew]); (try dsimp only); omega))⟩
theorem high_any (a h : Int) (w : World) (c : Int) (hc : hiC (a, h) = c) : Calls Tryd.prog 23 #[.agg #[.int .i64 a, .int .i64 h]] w fun e w' => e = .returned (.int .i64 c) ∧ AnyLater w w' := by
  subst hc
  by_cases d : h < a
  · have Q : Hid (a = hiC (a, h)) := Lib.hid (by unfold hiC; rw [if_pos d])
    go_enter Tryd.func23, Tryd.ntmps23
    go_wp2_with fail
    go_ret
    exact ⟨cret_i64 Q.out, by repeat' (first | with_reducible assumption | with_reducible exact AnyLater.refl _ | with_reducible apply AnyLater.setCell | with_reducible apply AnyLater.later | with_reducible apply AnyLater.drewN | with_reducible apply AnyLater.drew | with_reducible apply AnyLater.alloc | ((try simp only [World.size_alloc, World.size_setCell, World.size_drew]); (try dsimp only); omega))⟩
  · have Q : Hid (h = hiC (a, h)) := Lib.hid (by unfold hiC; rw [if_neg d])
    have d' : decide (h < a) = false := decide_eq_false d
    go_enter Tryd.func23, Tryd.ntmps23
    go_wp2_with fail
    go_ret
    exact ⟨cret_i64 Q.out, by repeat' (first | with_reducible assumption | with_reducible exact AnyLater.refl _ | with_reducible apply AnyLater.setCell | with_reducible apply AnyLater.later | with_reducible apply AnyLater.drewN | with_reducible apply AnyLater.drew | with_reducible apply AnyLater.alloc | ((try simp only [World.size_alloc, World.size_setCell, World.size_drew]); (try dsimp only); omega))⟩
set_option maxRecDepth 100000 in
set_option maxHeartbeats 3200000 in
theorem kmeet_any (a h b k : Int) (w : World) (c : Bool) (hc : meetC (a, h) (b, k) = c) : Calls Tryd.prog 33 #[.agg #[.int .i64 a, .int .i64 h], .agg #[.int .i64 b, .int .i64 k]] w fun e w' => e = .returned (.bool c) ∧ AnyLater w w' := by
  have HL1 := Lib.hid (fun w => low_any a h w _ rfl)
  have HH1 := Lib.hid (fun w => high_any a h w _ rfl)
  have HL2 := Lib.hid (fun w => low_any b k w _ rfl)
  have HH2 := Lib.hid (fun w => high_any b k w _ rfl)
  have HC : Hid (((decide (loC (a, h) < hiC (b, k)) && decide (loC (b, k) < hiC (a, h))) || ((decide (loC (a, h) = hiC (b, k)) || decide (loC (b, k) = hiC (a, h))) && (decide (a = h) || decide (b = k)))) = c) := Lib.hid hc
  clear hc
  generalize loC (a, h) = l1 at *
  generalize hiC (a, h) = h1 at *
  generalize loC (b, k) = l2 at *
  generalize hiC (b, k) = h2 at *
  go_enter Tryd.func33, Tryd.ntmps33
  go_wp2_with fail
  first | refine settle_wp (fun wS => AnyLater w wS ∧ wS.heap[w.heap.size]? = some (.cells #[.int .i64 a, .int .i64 h] 45) ∧ wS.heap[w.heap.size + 1]? = some (.cells #[.int .i64 b, .int .i64 k] 45)) ?_ ?_ | refine settle_calls (fun wS => AnyLater w wS ∧ wS.heap[w.heap.size]? = some (.cells #[.int .i64 a, .int .i64 h] 45) ∧ wS.heap[w.heap.size + 1]? = some (.cells #[.int .i64 b, .int .i64 k] 45)) ?_ ?_
  · refine ⟨?_, ?_, ?_⟩
    · repeat' (first | with_reducible assumption | with_reducible exact AnyLater.refl _ | with_reducible apply AnyLater.setCell | with_reducible apply AnyLater.later | with_reducible apply AnyLater.drewN | with_reducible apply AnyLater.drew | with_reducible apply AnyLater.alloc | ((try simp only [World.size_alloc, World.size_setCell, World.size_drew]); (try dsimp only); omega))
    · ((repeat (first | with_reducible assumption | ((with_reducible apply heap_new); (try simp only [World.size_alloc, World.size_setCell, World.size_drew, World.heap_drewN]); done) | ((with_reducible apply heap_new); (try simp only [World.size_alloc, World.size_setCell, World.size_drew, World.heap_drewN]); omega) | (with_reducible refine heap_old (by (try simp only [World.size_alloc, World.size_setCell, World.size_drew, World.heap_drewN]); omega) ?_) | (with_reducible refine heap_drew ?_) | (with_reducible refine heap_far (by omega) ?_) | (with_reducible apply heap_at))); all_goals rfl)
    · ((repeat (first | with_reducible assumption | ((with_reducible apply heap_new); (try simp only [World.size_alloc, World.size_setCell, World.size_drew, World.heap_drewN]); done) | ((with_reducible apply heap_new); (try simp only [World.size_alloc, World.size_setCell, World.size_drew, World.heap_drewN]); omega) | (with_reducible refine heap_old (by (try simp only [World.size_alloc, World.size_setCell, World.size_drew, World.heap_drewN]); omega) ?_) | (with_reducible refine heap_drew ?_) | (with_reducible refine heap_far (by omega) ?_) | (with_reducible apply heap_at))); all_goals rfl)
  rintro w1 ⟨b_w1, s0_w1, s1_w1⟩
  have a_w1 := b_w1
  have r0_w1 := own_row s0_w1
  have f0_w1 := own_free s0_w1
  have l0_w1 := own_lt s0_w1
  have r1_w1 := own_row s1_w1
  have f1_w1 := own_free s1_w1
  have l1_w1 := own_lt s1_w1
  have z_w1 := b_w1.below.size
  go_upto_region 1 with fail
  go_cut [16] (fun v wx => v = .bool (decide (l1 < h2) && decide (l2 < h1)) ∧ AnyLater w1 wx)
  case first =>
    by_cases g1 : l1 < h2
    · have g1' : decide (l1 < h2) = true := decide_eq_true g1
      apply wp_region_free (12) [⟨1, 6, .int .i64 l1, false, fun v _ => v = .int .i64 l1⟩, ⟨3, 8, .int .i64 h2, false, fun v _ => v = .int .i64 h2⟩, ⟨7, 12, .int .i64 l2, false, fun v _ => v = .int .i64 l2⟩, ⟨9, 14, .int .i64 h1, false, fun v _ => v = .int .i64 h1⟩] [] rfl (by kernel_rfl) (by kernel_rfl) (by kernel_rfl) (by simp) (by kernel_rfl)
      case hstab =>
        intro c hc
        simp only [List.mem_cons, List.not_mem_nil, or_false] at hc
        rcases hc with rfl | rfl | rfl | rfl
        · intro v x y hxy hv; exact hv
        · intro v x y hxy hv; exact hv
        · intro v x y hxy hv; exact hv
        · intro v x y hxy hv; exact hv
      case hfix =>
        intro c hc
        simp only [List.mem_cons, List.not_mem_nil, or_false] at hc
        rcases hc with rfl | rfl | rfl | rfl
        · exact .inr fun u x h => h
        · exact .inr fun u x h => h
        · exact .inr fun u x h => h
        · exact .inr fun u x h => h
      case hlex =>
        intro U hU
        have q0 := own_row (any_own hU s0_w1)
        have q1 := own_row (any_own hU s1_w1)
        simp only [List.map_cons, List.map_nil, CA.act, actFrom, actOp, List.lookup, Nat.reduceBEq, Nat.reduceLeDiff, Nat.reduceAdd, if_false, if_true]
        repeat (go_big_quiet_step (first | fail))
        exact wpQuiet_nil rfl
      case hstep =>
        intro j hj o ho
        have hj2 : j = 0 ∨ j = 1 ∨ j = 2 ∨ j = 3 := by simp at hj; omega
        rcases hj2 with rfl | rfl | rfl | rfl
        · cases ho
          refine ⟨rfl, fun g x hx hp => ?_⟩
          clear hp
          simp only [fillAll, Act.put, List.setIfInBounds_toArray, List.set_cons_zero, List.set_cons_succ]
          refine chain_go ?_ (free_fix (HL1.out x))
          first | (simp [go_sem, execOp]; done) | simp [go_sem, execOp, hcf]
        · cases ho
          refine ⟨rfl, fun g x hx hp => ?_⟩
          clear hp
          simp only [fillAll, Act.put, List.setIfInBounds_toArray, List.set_cons_zero, List.set_cons_succ]
          refine chain_go ?_ (free_fix (HH2.out x))
          first | (simp [go_sem, execOp]; done) | simp [go_sem, execOp, hcf]
        · cases ho
          refine ⟨rfl, fun g x hx hp => ?_⟩
          clear hp
          simp only [fillAll, Act.put, List.setIfInBounds_toArray, List.set_cons_zero, List.set_cons_succ]
          refine chain_go ?_ (free_fix (HL2.out x))
          first | (simp [go_sem, execOp]; done) | simp [go_sem, execOp, hcf]
        · cases ho
          refine ⟨rfl, fun g x hx hp => ?_⟩
          clear hp
          simp only [fillAll, Act.put, List.setIfInBounds_toArray, List.set_cons_zero, List.set_cons_succ]
          refine chain_go ?_ (free_fix (HH1.out x))
          first | (simp [go_sem, execOp]; done) | simp [go_sem, execOp, hcf]
      case htail =>
        intro g u hst hne
        have b_w2 : AnyLater w1 (later u) := ⟨u, rfl⟩
        generalize later u = w2 at *
        clear u
        clear hst hne
        simp only [fillAll, Act.put, List.setIfInBounds_toArray, List.set_cons_zero, List.set_cons_succ, List.drop_succ_cons, List.drop_zero, List.drop_nil]
        have z_w2 := b_w2.below.size
        have a_w2 := a_w1.trans b_w2
        have s0_w2 := any_own b_w2 s0_w1
        have s1_w2 := any_own b_w2 s1_w1
        have r0_w2 := own_row s0_w2
        have f0_w2 := own_free s0_w2
        have l0_w2 := own_lt s0_w2
        have r1_w2 := own_row s1_w2
        have f1_w2 := own_free s1_w2
        have l1_w2 := own_lt s1_w2
        (try clear r0_w1); (try clear f0_w1)
        (try clear r1_w1); (try clear f1_w1)
        have hb := b_w2
        go_wp2_with fail
        go_meet
        case rel => exact ⟨by rw [g1', Bool.true_and], hb⟩
    · have g1' : decide (l1 < h2) = false := decide_eq_false g1
      apply wp_region_free (12) [⟨1, 6, .int .i64 l1, false, fun v _ => v = .int .i64 l1⟩, ⟨3, 8, .int .i64 h2, false, fun v _ => v = .int .i64 h2⟩] [] rfl (by kernel_rfl) (by kernel_rfl) (by kernel_rfl) (by simp) (by kernel_rfl)
      case hstab =>
        intro c hc
        simp only [List.mem_cons, List.not_mem_nil, or_false] at hc
        rcases hc with rfl | rfl
        · intro v x y hxy hv; exact hv
        · intro v x y hxy hv; exact hv
      case hfix =>
        intro c hc
        simp only [List.mem_cons, List.not_mem_nil, or_false] at hc
        rcases hc with rfl | rfl
        · exact .inr fun u x h => h
        · exact .inr fun u x h => h
      case hlex =>
        intro U hU
        have q0 := own_row (any_own hU s0_w1)
        have q1 := own_row (any_own hU s1_w1)
        simp only [List.map_cons, List.map_nil, CA.act, actFrom, actOp, List.lookup, Nat.reduceBEq, Nat.reduceLeDiff, Nat.reduceAdd, if_false, if_true]
        repeat (go_big_quiet_step (first | fail))
        exact wpQuiet_nil rfl
      case hstep =>
        intro j hj o ho
        have hj2 : j = 0 ∨ j = 1 := by simp at hj; omega
        rcases hj2 with rfl | rfl
        · cases ho
          refine ⟨rfl, fun g x hx hp => ?_⟩
          clear hp
          simp only [fillAll, Act.put, List.setIfInBounds_toArray, List.set_cons_zero, List.set_cons_succ]
          refine chain_go ?_ (free_fix (HL1.out x))
          first | (simp [go_sem, execOp]; done) | simp [go_sem, execOp, hcf]
        · cases ho
          refine ⟨rfl, fun g x hx hp => ?_⟩
          clear hp
          simp only [fillAll, Act.put, List.setIfInBounds_toArray, List.set_cons_zero, List.set_cons_succ]
          refine chain_go ?_ (free_fix (HH2.out x))
          first | (simp [go_sem, execOp]; done) | simp [go_sem, execOp, hcf]
      case htail =>
        intro g u hst hne
        have b_w2 : AnyLater w1 (later u) := ⟨u, rfl⟩
        generalize later u = w2 at *
        clear u
        clear hst hne
        simp only [fillAll, Act.put, List.setIfInBounds_toArray, List.set_cons_zero, List.set_cons_succ, List.drop_succ_cons, List.drop_zero, List.drop_nil]
        have z_w2 := b_w2.below.size
        have a_w2 := a_w1.trans b_w2
        have s0_w2 := any_own b_w2 s0_w1
        have s1_w2 := any_own b_w2 s1_w1
        have r0_w2 := own_row s0_w2
        have f0_w2 := own_free s0_w2
        have l0_w2 := own_lt s0_w2
        have r1_w2 := own_row s1_w2
        have f1_w2 := own_free s1_w2
        have l1_w2 := own_lt s1_w2
        (try clear r0_w1); (try clear f0_w1)
        (try clear r1_w1); (try clear f1_w1)
        have hb := b_w2
        go_wp2_with fail
        go_meet
        case rel => exact ⟨by rw [g1', Bool.false_and], hb⟩
  case rest =>
    obtain ⟨rfl, hb⟩ := hcut
    have s0_w3 := any_own hb s0_w1
    have s1_w3 := any_own hb s1_w1
    have a_w3 := a_w1.trans hb
    have r0_w3 := own_row s0_w3
    have r1_w3 := own_row s1_w3
    generalize hw3 : wc = w3 at *
    clear hw3 hb r0_w1 r1_w1
    by_cases g0 : l1 < h2 ∧ l2 < h1
    · have e1 : c = true := by rw [← HC.out, decide_eq_true g0.1, decide_eq_true g0.2]; rfl
      have e2 : (decide (l1 < h2) && decide (l2 < h1)) = true := by rw [decide_eq_true g0.1, decide_eq_true g0.2]; rfl
      subst e1
      rw [e2]
      clear e2
      go_wp2_with fail
      go_ret
      exact ⟨rfl, a_w3⟩
    · have e2 : (decide (l1 < h2) && decide (l2 < h1)) = false := by
        rw [Bool.and_eq_false_iff, decide_eq_false_iff_not, decide_eq_false_iff_not]; omega
      have HE : Hid (((decide (l1 = h2) || decide (l2 = h1)) && (decide (a = h) || decide (b = k))) = c) := Lib.hid (by have := HC.out; rw [e2, Bool.false_or] at this; exact this)
      rw [e2]
      clear e2 g0 HC
      have s0_w1 := s0_w3
      by_cases t1 : l1 = h2
      · have t1' : (l1 == h2) = true := by simp [t1]
        by_cases t3 : a = h
        · have t3' : (a == h) = true := by simp [t3]
          have e1 : c = true := by rw [← HE.out, decide_eq_true t1, decide_eq_true t3]; rfl
          subst e1
          clear t1 t3 HE
          go_wp2_with fail
          apply wp_region_free (27) [⟨1, 18, .int .i64 l1, false, fun v _ => v = .int .i64 l1⟩, ⟨3, 20, .int .i64 h2, false, fun v _ => v = .int .i64 h2⟩] [] rfl (by kernel_rfl) (by kernel_rfl) (by kernel_rfl) (by simp) (by kernel_rfl)
          case hstab =>
            intro c hc
            simp only [List.mem_cons, List.not_mem_nil, or_false] at hc
            rcases hc with rfl | rfl
            · intro v x y hxy hv; exact hv
            · intro v x y hxy hv; exact hv
          case hfix =>
            intro c hc
            simp only [List.mem_cons, List.not_mem_nil, or_false] at hc
            rcases hc with rfl | rfl
            · exact .inr fun u x h => h
            · exact .inr fun u x h => h
          case hlex =>
            intro U hU
            have q0 := own_row (any_own hU s0_w3)
            have q1 := own_row (any_own hU s1_w3)
            simp only [List.map_cons, List.map_nil, CA.act, actFrom, actOp, List.lookup, Nat.reduceBEq, Nat.reduceLeDiff, Nat.reduceAdd, if_false, if_true]
            repeat (go_big_quiet_step (first | fail))
            exact wpQuiet_nil rfl
          case hstep =>
            intro j hj o ho
            have hj2 : j = 0 ∨ j = 1 := by simp at hj; omega
            rcases hj2 with rfl | rfl
            · cases ho
              refine ⟨rfl, fun g x hx hp => ?_⟩
              clear hp
              simp only [fillAll, Act.put, List.setIfInBounds_toArray, List.set_cons_zero, List.set_cons_succ]
              refine chain_go ?_ (free_fix (HL1.out x))
              first | (simp [go_sem, execOp]; done) | simp [go_sem, execOp, hcf]
            · cases ho
              refine ⟨rfl, fun g x hx hp => ?_⟩
              clear hp
              simp only [fillAll, Act.put, List.setIfInBounds_toArray, List.set_cons_zero, List.set_cons_succ]
              refine chain_go ?_ (free_fix (HH2.out x))
              first | (simp [go_sem, execOp]; done) | simp [go_sem, execOp, hcf]
          case htail =>
            intro g u hst hne
            have b_w4 : AnyLater w3 (later u) := ⟨u, rfl⟩
            generalize later u = w4 at *
            clear u
            clear hst hne
            simp only [fillAll, Act.put, List.setIfInBounds_toArray, List.set_cons_zero, List.set_cons_succ, List.drop_succ_cons, List.drop_zero, List.drop_nil]
            have z_w4 := b_w4.below.size
            have a_w4 := a_w3.trans b_w4
            have s0_w4 := any_own b_w4 s0_w3
            have s1_w4 := any_own b_w4 s1_w3
            have r0_w4 := own_row s0_w4
            have f0_w4 := own_free s0_w4
            have l0_w4 := own_lt s0_w4
            have r1_w4 := own_row s1_w4
            have f1_w4 := own_free s1_w4
            have l1_w4 := own_lt s1_w4
            (try clear r0_w3); (try clear f0_w3)
            (try clear r1_w3); (try clear f1_w3)
            go_wp2_with fail
            go_ret
            exact ⟨rfl, a_w4⟩
        · have t3' : (a == h) = false := by simp [t3]
          have e1 : c = decide (b = k) := by rw [← HE.out, decide_eq_true t1, decide_eq_false t3]; rfl
          have e9 : (b == k) = decide (b = k) := by by_cases e : b = k <;> simp [e]
          have Q := Lib.hid (e9.trans e1.symm)
          clear t1 t3 HE e1 e9
          go_wp2_with fail
          apply wp_region_free (27) [⟨1, 18, .int .i64 l1, false, fun v _ => v = .int .i64 l1⟩, ⟨3, 20, .int .i64 h2, false, fun v _ => v = .int .i64 h2⟩] [] rfl (by kernel_rfl) (by kernel_rfl) (by kernel_rfl) (by simp) (by kernel_rfl)
          case hstab =>
            intro c hc
            simp only [List.mem_cons, List.not_mem_nil, or_false] at hc
            rcases hc with rfl | rfl
            · intro v x y hxy hv; exact hv
            · intro v x y hxy hv; exact hv
          case hfix =>
            intro c hc
            simp only [List.mem_cons, List.not_mem_nil, or_false] at hc
            rcases hc with rfl | rfl
            · exact .inr fun u x h => h
            · exact .inr fun u x h => h
          case hlex =>
            intro U hU
            have q0 := own_row (any_own hU s0_w3)
            have q1 := own_row (any_own hU s1_w3)
            simp only [List.map_cons, List.map_nil, CA.act, actFrom, actOp, List.lookup, Nat.reduceBEq, Nat.reduceLeDiff, Nat.reduceAdd, if_false, if_true]
            repeat (go_big_quiet_step (first | fail))
            exact wpQuiet_nil rfl
          case hstep =>
            intro j hj o ho
            have hj2 : j = 0 ∨ j = 1 := by simp at hj; omega
            rcases hj2 with rfl | rfl
            · cases ho
              refine ⟨rfl, fun g x hx hp => ?_⟩
              clear hp
              simp only [fillAll, Act.put, List.setIfInBounds_toArray, List.set_cons_zero, List.set_cons_succ]
              refine chain_go ?_ (free_fix (HL1.out x))
              first | (simp [go_sem, execOp]; done) | simp [go_sem, execOp, hcf]
            · cases ho
              refine ⟨rfl, fun g x hx hp => ?_⟩
              clear hp
              simp only [fillAll, Act.put, List.setIfInBounds_toArray, List.set_cons_zero, List.set_cons_succ]
              refine chain_go ?_ (free_fix (HH2.out x))
              first | (simp [go_sem, execOp]; done) | simp [go_sem, execOp, hcf]
          case htail =>
            intro g u hst hne
            have b_w4 : AnyLater w3 (later u) := ⟨u, rfl⟩
            generalize later u = w4 at *
            clear u
            clear hst hne
            simp only [fillAll, Act.put, List.setIfInBounds_toArray, List.set_cons_zero, List.set_cons_succ, List.drop_succ_cons, List.drop_zero, List.drop_nil]
            have z_w4 := b_w4.below.size
            have a_w4 := a_w3.trans b_w4
            have s0_w4 := any_own b_w4 s0_w3
            have s1_w4 := any_own b_w4 s1_w3
            have r0_w4 := own_row s0_w4
            have f0_w4 := own_free s0_w4
            have l0_w4 := own_lt s0_w4
            have r1_w4 := own_row s1_w4
            have f1_w4 := own_free s1_w4
            have l1_w4 := own_lt s1_w4
            (try clear r0_w3); (try clear f0_w3)
            (try clear r1_w3); (try clear f1_w3)
            go_wp2_with fail
            go_ret
            exact ⟨ret_bool Q.out, a_w4⟩
      · have t1' : (l1 == h2) = false := by simp [t1]
        by_cases t2 : l2 = h1
        · have t2' : (l2 == h1) = true := by simp [t2]
          by_cases t3 : a = h
          · have t3' : (a == h) = true := by simp [t3]
            have e1 : c = true := by rw [← HE.out, decide_eq_true t2, decide_eq_true t3]; simp
            subst e1
            clear t1 t2 t3 HE
            go_wp2_with fail
            apply wp_region_free (27) [⟨1, 18, .int .i64 l1, false, fun v _ => v = .int .i64 l1⟩, ⟨3, 20, .int .i64 h2, false, fun v _ => v = .int .i64 h2⟩, ⟨7, 24, .int .i64 l2, false, fun v _ => v = .int .i64 l2⟩, ⟨9, 26, .int .i64 h1, false, fun v _ => v = .int .i64 h1⟩] [] rfl (by kernel_rfl) (by kernel_rfl) (by kernel_rfl) (by simp) (by kernel_rfl)
            case hstab =>
              intro c hc
              simp only [List.mem_cons, List.not_mem_nil, or_false] at hc
              rcases hc with rfl | rfl | rfl | rfl
              · intro v x y hxy hv; exact hv
              · intro v x y hxy hv; exact hv
              · intro v x y hxy hv; exact hv
              · intro v x y hxy hv; exact hv
            case hfix =>
              intro c hc
              simp only [List.mem_cons, List.not_mem_nil, or_false] at hc
              rcases hc with rfl | rfl | rfl | rfl
              · exact .inr fun u x h => h
              · exact .inr fun u x h => h
              · exact .inr fun u x h => h
              · exact .inr fun u x h => h
            case hlex =>
              intro U hU
              have q0 := own_row (any_own hU s0_w3)
              have q1 := own_row (any_own hU s1_w3)
              simp only [List.map_cons, List.map_nil, CA.act, actFrom, actOp, List.lookup, Nat.reduceBEq, Nat.reduceLeDiff, Nat.reduceAdd, if_false, if_true]
              repeat (go_big_quiet_step (first | fail))
              exact wpQuiet_nil rfl
            case hstep =>
              intro j hj o ho
              have hj2 : j = 0 ∨ j = 1 ∨ j = 2 ∨ j = 3 := by simp at hj; omega
              rcases hj2 with rfl | rfl | rfl | rfl
              · cases ho
                refine ⟨rfl, fun g x hx hp => ?_⟩
                clear hp
                simp only [fillAll, Act.put, List.setIfInBounds_toArray, List.set_cons_zero, List.set_cons_succ]
                refine chain_go ?_ (free_fix (HL1.out x))
                first | (simp [go_sem, execOp]; done) | simp [go_sem, execOp, hcf]
              · cases ho
                refine ⟨rfl, fun g x hx hp => ?_⟩
                clear hp
                simp only [fillAll, Act.put, List.setIfInBounds_toArray, List.set_cons_zero, List.set_cons_succ]
                refine chain_go ?_ (free_fix (HH2.out x))
                first | (simp [go_sem, execOp]; done) | simp [go_sem, execOp, hcf]
              · cases ho
                refine ⟨rfl, fun g x hx hp => ?_⟩
                clear hp
                simp only [fillAll, Act.put, List.setIfInBounds_toArray, List.set_cons_zero, List.set_cons_succ]
                refine chain_go ?_ (free_fix (HL2.out x))
                first | (simp [go_sem, execOp]; done) | simp [go_sem, execOp, hcf]
              · cases ho
                refine ⟨rfl, fun g x hx hp => ?_⟩
                clear hp
                simp only [fillAll, Act.put, List.setIfInBounds_toArray, List.set_cons_zero, List.set_cons_succ]
                refine chain_go ?_ (free_fix (HH1.out x))
                first | (simp [go_sem, execOp]; done) | simp [go_sem, execOp, hcf]
            case htail =>
              intro g u hst hne
              have b_w4 : AnyLater w3 (later u) := ⟨u, rfl⟩
              generalize later u = w4 at *
              clear u
              clear hst hne
              simp only [fillAll, Act.put, List.setIfInBounds_toArray, List.set_cons_zero, List.set_cons_succ, List.drop_succ_cons, List.drop_zero, List.drop_nil]
              have z_w4 := b_w4.below.size
              have a_w4 := a_w3.trans b_w4
              have s0_w4 := any_own b_w4 s0_w3
              have s1_w4 := any_own b_w4 s1_w3
              have r0_w4 := own_row s0_w4
              have f0_w4 := own_free s0_w4
              have l0_w4 := own_lt s0_w4
              have r1_w4 := own_row s1_w4
              have f1_w4 := own_free s1_w4
              have l1_w4 := own_lt s1_w4
              (try clear r0_w3); (try clear f0_w3)
              (try clear r1_w3); (try clear f1_w3)
              go_wp2_with fail
              go_ret
              exact ⟨rfl, a_w4⟩
          · have t3' : (a == h) = false := by simp [t3]
            have e1 : c = decide (b = k) := by rw [← HE.out, decide_eq_true t2, decide_eq_false t3]; simp
            have e9 : (b == k) = decide (b = k) := by by_cases e : b = k <;> simp [e]
            have Q := Lib.hid (e9.trans e1.symm)
            clear t1 t2 t3 HE e1 e9
            go_wp2_with fail
            apply wp_region_free (27) [⟨1, 18, .int .i64 l1, false, fun v _ => v = .int .i64 l1⟩, ⟨3, 20, .int .i64 h2, false, fun v _ => v = .int .i64 h2⟩, ⟨7, 24, .int .i64 l2, false, fun v _ => v = .int .i64 l2⟩, ⟨9, 26, .int .i64 h1, false, fun v _ => v = .int .i64 h1⟩] [] rfl (by kernel_rfl) (by kernel_rfl) (by kernel_rfl) (by simp) (by kernel_rfl)
            case hstab =>
              intro c hc
              simp only [List.mem_cons, List.not_mem_nil, or_false] at hc
              rcases hc with rfl | rfl | rfl | rfl
              · intro v x y hxy hv; exact hv
              · intro v x y hxy hv; exact hv
              · intro v x y hxy hv; exact hv
              · intro v x y hxy hv; exact hv
            case hfix =>
              intro c hc
              simp only [List.mem_cons, List.not_mem_nil, or_false] at hc
              rcases hc with rfl | rfl | rfl | rfl
              · exact .inr fun u x h => h
              · exact .inr fun u x h => h
              · exact .inr fun u x h => h
              · exact .inr fun u x h => h
            case hlex =>
              intro U hU
              have q0 := own_row (any_own hU s0_w3)
              have q1 := own_row (any_own hU s1_w3)
              simp only [List.map_cons, List.map_nil, CA.act, actFrom, actOp, List.lookup, Nat.reduceBEq, Nat.reduceLeDiff, Nat.reduceAdd, if_false, if_true]
              repeat (go_big_quiet_step (first | fail))
              exact wpQuiet_nil rfl
            case hstep =>
              intro j hj o ho
              have hj2 : j = 0 ∨ j = 1 ∨ j = 2 ∨ j = 3 := by simp at hj; omega
              rcases hj2 with rfl | rfl | rfl | rfl
              · cases ho
                refine ⟨rfl, fun g x hx hp => ?_⟩
                clear hp
                simp only [fillAll, Act.put, List.setIfInBounds_toArray, List.set_cons_zero, List.set_cons_succ]
                refine chain_go ?_ (free_fix (HL1.out x))
                first | (simp [go_sem, execOp]; done) | simp [go_sem, execOp, hcf]
              · cases ho
                refine ⟨rfl, fun g x hx hp => ?_⟩
                clear hp
                simp only [fillAll, Act.put, List.setIfInBounds_toArray, List.set_cons_zero, List.set_cons_succ]
                refine chain_go ?_ (free_fix (HH2.out x))
                first | (simp [go_sem, execOp]; done) | simp [go_sem, execOp, hcf]
              · cases ho
                refine ⟨rfl, fun g x hx hp => ?_⟩
                clear hp
                simp only [fillAll, Act.put, List.setIfInBounds_toArray, List.set_cons_zero, List.set_cons_succ]
                refine chain_go ?_ (free_fix (HL2.out x))
                first | (simp [go_sem, execOp]; done) | simp [go_sem, execOp, hcf]
              · cases ho
                refine ⟨rfl, fun g x hx hp => ?_⟩
                clear hp
                simp only [fillAll, Act.put, List.setIfInBounds_toArray, List.set_cons_zero, List.set_cons_succ]
                refine chain_go ?_ (free_fix (HH1.out x))
                first | (simp [go_sem, execOp]; done) | simp [go_sem, execOp, hcf]
            case htail =>
              intro g u hst hne
              have b_w4 : AnyLater w3 (later u) := ⟨u, rfl⟩
              generalize later u = w4 at *
              clear u
              clear hst hne
              simp only [fillAll, Act.put, List.setIfInBounds_toArray, List.set_cons_zero, List.set_cons_succ, List.drop_succ_cons, List.drop_zero, List.drop_nil]
              have z_w4 := b_w4.below.size
              have a_w4 := a_w3.trans b_w4
              have s0_w4 := any_own b_w4 s0_w3
              have s1_w4 := any_own b_w4 s1_w3
              have r0_w4 := own_row s0_w4
              have f0_w4 := own_free s0_w4
              have l0_w4 := own_lt s0_w4
              have r1_w4 := own_row s1_w4
              have f1_w4 := own_free s1_w4
              have l1_w4 := own_lt s1_w4
              (try clear r0_w3); (try clear f0_w3)
              (try clear r1_w3); (try clear f1_w3)
              go_wp2_with fail
              go_ret
              exact ⟨ret_bool Q.out, a_w4⟩
        · have t2' : (l2 == h1) = false := by simp [t2]
          have e1 : c = false := by rw [← HE.out, decide_eq_false t1, decide_eq_false t2]; rfl
          subst e1
          clear t1 t2 HE
          go_wp2_with fail
          apply wp_region_free (27) [⟨1, 18, .int .i64 l1, false, fun v _ => v = .int .i64 l1⟩, ⟨3, 20, .int .i64 h2, false, fun v _ => v = .int .i64 h2⟩, ⟨7, 24, .int .i64 l2, false, fun v _ => v = .int .i64 l2⟩, ⟨9, 26, .int .i64 h1, false, fun v _ => v = .int .i64 h1⟩] [] rfl (by kernel_rfl) (by kernel_rfl) (by kernel_rfl) (by simp) (by kernel_rfl)
          case hstab =>
            intro c hc
            simp only [List.mem_cons, List.not_mem_nil, or_false] at hc
            rcases hc with rfl | rfl | rfl | rfl
            · intro v x y hxy hv; exact hv
            · intro v x y hxy hv; exact hv
            · intro v x y hxy hv; exact hv
            · intro v x y hxy hv; exact hv
          case hfix =>
            intro c hc
            simp only [List.mem_cons, List.not_mem_nil, or_false] at hc
            rcases hc with rfl | rfl | rfl | rfl
            · exact .inr fun u x h => h
            · exact .inr fun u x h => h
            · exact .inr fun u x h => h
            · exact .inr fun u x h => h
          case hlex =>
            intro U hU
            have q0 := own_row (any_own hU s0_w3)
            have q1 := own_row (any_own hU s1_w3)
            simp only [List.map_cons, List.map_nil, CA.act, actFrom, actOp, List.lookup, Nat.reduceBEq, Nat.reduceLeDiff, Nat.reduceAdd, if_false, if_true]
            repeat (go_big_quiet_step (first | fail))
            exact wpQuiet_nil rfl
          case hstep =>
            intro j hj o ho
            have hj2 : j = 0 ∨ j = 1 ∨ j = 2 ∨ j = 3 := by simp at hj; omega
            rcases hj2 with rfl | rfl | rfl | rfl
            · cases ho
              refine ⟨rfl, fun g x hx hp => ?_⟩
              clear hp
              simp only [fillAll, Act.put, List.setIfInBounds_toArray, List.set_cons_zero, List.set_cons_succ]
              refine chain_go ?_ (free_fix (HL1.out x))
              first | (simp [go_sem, execOp]; done) | simp [go_sem, execOp, hcf]
            · cases ho
              refine ⟨rfl, fun g x hx hp => ?_⟩
              clear hp
              simp only [fillAll, Act.put, List.setIfInBounds_toArray, List.set_cons_zero, List.set_cons_succ]
              refine chain_go ?_ (free_fix (HH2.out x))
              first | (simp [go_sem, execOp]; done) | simp [go_sem, execOp, hcf]
            · cases ho
              refine ⟨rfl, fun g x hx hp => ?_⟩
              clear hp
              simp only [fillAll, Act.put, List.setIfInBounds_toArray, List.set_cons_zero, List.set_cons_succ]
              refine chain_go ?_ (free_fix (HL2.out x))
              first | (simp [go_sem, execOp]; done) | simp [go_sem, execOp, hcf]
            · cases ho
              refine ⟨rfl, fun g x hx hp => ?_⟩
              clear hp
              simp only [fillAll, Act.put, List.setIfInBounds_toArray, List.set_cons_zero, List.set_cons_succ]
              refine chain_go ?_ (free_fix (HH1.out x))
              first | (simp [go_sem, execOp]; done) | simp [go_sem, execOp, hcf]
          case htail =>
            intro g u hst hne
            have b_w4 : AnyLater w3 (later u) := ⟨u, rfl⟩
            generalize later u = w4 at *
            clear u
            clear hst hne
            simp only [fillAll, Act.put, List.setIfInBounds_toArray, List.set_cons_zero, List.set_cons_succ, List.drop_succ_cons, List.drop_zero, List.drop_nil]
            have z_w4 := b_w4.below.size
            have a_w4 := a_w3.trans b_w4
            have s0_w4 := any_own b_w4 s0_w3
            have s1_w4 := any_own b_w4 s1_w3
            have r0_w4 := own_row s0_w4
            have f0_w4 := own_free s0_w4
            have l0_w4 := own_lt s0_w4
            have r1_w4 := own_row s1_w4
            have f1_w4 := own_free s1_w4
            have l1_w4 := own_lt s1_w4
            (try clear r0_w3); (try clear f0_w3)
            (try clear r1_w3); (try clear f1_w3)
            go_wp2_with fail
            go_ret
            exact ⟨rfl, a_w4⟩
end Go.Proofs.YtkobnijjahpifaaDoor
