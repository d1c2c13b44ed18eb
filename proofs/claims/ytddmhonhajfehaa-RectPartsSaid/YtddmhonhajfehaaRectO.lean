/- rect: the law on the order of the parts, walked over the contracts. -/
import Derived.Test.YtddmhonhajfehaaRectM
namespace Go.Proofs.Ytddmhonhajfehaa
set_option linter.unusedSimpArgs false
set_option linter.unusedVariables false
set_option linter.unusedSectionVars false
open Go.RowKit

theorem kept_get {ps : List Rc} {k m : Nat} {r : Rc} (hk : ps[k]? = some r) (h : r.any = true) (hm : k < m) : (kept ps m)[(kept ps k).length]? = some r := by
  have e : ps.take m = ps.take (k + 1) ++ (ps.take m).drop (k + 1) := by
    have := List.take_append_drop (k + 1) (ps.take m)
    rw [List.take_take, show min (k + 1) m = k + 1 by omega] at this
    exact this.symm
  have e2 : kept ps m = kept ps (k + 1) ++ ((ps.take m).drop (k + 1)).filter Rc.any := by
    unfold kept
    rw [e, List.filter_append]
    congr 1
    rw [← e]
  rw [e2, kept_on hk h, List.append_assoc, List.getElem?_append_right (by omega)]
  simp
set_option maxRecDepth 100000 in
set_option maxHeartbeats 4000000 in
theorem rectParts_walk (x y a b x2 y2 a2 b2 : Int) (w : World) (hx : I64 x) (hy : I64 y) (ha : I64 a) (hb : I64 b) (hx2 : I64 x2) (hy2 : I64 y2) (ha2 : I64 a2) (hb2 : I64 b2) :
    Calls Try.prog 6 #[.agg #[.int .i64 x, .int .i64 y, .int .i64 a, .int .i64 b], .agg #[.int .i64 x2, .int .i64 y2, .int .i64 a2, .int .i64 b2]] w fun e w' => e = .returned (.bool true) ∧ AnyLater w w' := by
  obtain ⟨⟨mx, my, ma, mb⟩, hm⟩ : ∃ m, meetR ⟨x, y, a, b⟩ ⟨x2, y2, a2, b2⟩ = m := ⟨_, rfl⟩
  obtain ⟨mi, _⟩ := meet_in hm
  obtain ⟨L, hL⟩ : ∃ l, lessR ⟨x, y, a, b⟩ ⟨x2, y2, a2, b2⟩ = l := ⟨_, rfl⟩
  have HL := Lib.hid hL
  have HM := Lib.hid hm
  have hless : ∀ w, Calls Try.prog 19 #[.agg #[.int .i64 x, .int .i64 y, .int .i64 a, .int .i64 b], .agg #[.int .i64 x2, .int .i64 y2, .int .i64 a2, .int .i64 b2]] w (Gives (isRects L) w) := by
    intro w
    rw [← hL]
    exact less_any _ _ _ _ _ _ _ _ _ hx hy ha hb hx2 hy2 ha2 hb2
  have HC := Lib.hid hless
  clear hL hm hless
  cases g1 : anyB x y a b with
  | false =>
    have hL0 : L = [] := by
      have := HL.out
      unfold lessR Rc.any at this
      simp only [g1, Bool.false_eq_true, if_false] at this
      exact this.symm
    subst hL0
    go_enter Try.func6, Try.ntmps6
    go_wp2_with fail
    first | refine settle_wp (fun wS => AnyLater w wS ∧ wS.heap[w.heap.size]? = some (.cells #[.int .i64 x, .int .i64 y, .int .i64 a, .int .i64 b] 23) ∧ wS.heap[w.heap.size + 1]? = some (.cells #[.int .i64 x2, .int .i64 y2, .int .i64 a2, .int .i64 b2] 23)) ?_ ?_ | refine settle_calls (fun wS => AnyLater w wS ∧ wS.heap[w.heap.size]? = some (.cells #[.int .i64 x, .int .i64 y, .int .i64 a, .int .i64 b] 23) ∧ wS.heap[w.heap.size + 1]? = some (.cells #[.int .i64 x2, .int .i64 y2, .int .i64 a2, .int .i64 b2] 23)) ?_ ?_
    · refine ⟨?_, ?_, ?_⟩
      · repeat' (first | with_reducible assumption | with_reducible exact AnyLater.refl _ | with_reducible apply AnyLater.setCell | with_reducible apply AnyLater.later | with_reducible apply AnyLater.drewN | with_reducible apply AnyLater.drew | with_reducible apply AnyLater.alloc | ((try simp only [World.size_alloc, World.size_setCell, World.size_drew]); (try dsimp only); omega))
      · ((repeat (first | with_reducible assumption | ((with_reducible apply heap_new); (try simp only [World.size_alloc, World.size_setCell, World.size_drew, World.heap_drewN]); done) | ((with_reducible apply heap_new); (try simp only [World.size_alloc, World.size_setCell, World.size_drew, World.heap_drewN]); omega) | (with_reducible refine heap_old (by (try simp only [World.size_alloc, World.size_setCell, World.size_drew, World.heap_drewN]); omega) ?_) | (with_reducible refine heap_drew ?_) | (with_reducible refine heap_far (by omega) ?_) | (with_reducible apply heap_at))); all_goals rfl)
      · ((repeat (first | with_reducible assumption | ((with_reducible apply heap_new); (try simp only [World.size_alloc, World.size_setCell, World.size_drew, World.heap_drewN]); done) | ((with_reducible apply heap_new); (try simp only [World.size_alloc, World.size_setCell, World.size_drew, World.heap_drewN]); omega) | (with_reducible refine heap_old (by (try simp only [World.size_alloc, World.size_setCell, World.size_drew, World.heap_drewN]); omega) ?_) | (with_reducible refine heap_drew ?_) | (with_reducible refine heap_far (by omega) ?_) | (with_reducible apply heap_at))); all_goals rfl)
    rintro w1 ⟨b_w1, s0_w1, s1_w1⟩
    have a_w1 := b_w1
    have r0_w1 := own_row s0_w1
    have f0_w1 := own_free s0_w1
    have l0_w1 := own_lt s0_w1
    have r1_w1 := own_row s1_w1
    have f1_w1 := own_free s1_w1
    have l1_w1 := own_lt s1_w1
    have z_w1 := b_w1.below.size
    apply wp_region_mem (7) [⟨2, 12, isRects []⟩, ⟨6, 6, isVar (.cells #[.int .i64 0, .int .i64 0, .int .i64 0, .int .i64 0] 23)⟩] (by kernel_rfl) (by kernel_rfl) (by simp)
    case hstab =>
      intro e he v x y hxy hv
      simp only [List.mem_cons, List.not_mem_nil, or_false] at he
      rcases he with rfl | rfl
      · exact isRects_stays hxy hv
      · exact isVar_stays hxy hv
    case hlex =>
      intro U
      have q0 := fun (v : Later (later U)) => own_row (any_own ⟨v, rfl⟩ (any_own ⟨U, rfl⟩ s0_w1))
      have q1 := fun (v : Later (later U)) => own_row (any_own ⟨v, rfl⟩ (any_own ⟨U, rfl⟩ s1_w1))
      simp only [absFrom, absOp, idx, List.map_cons, List.map_nil, List.contains_cons, List.contains_nil, Nat.reduceBEq, Bool.or_false, Bool.false_or, Bool.true_or, Bool.or_true, Bool.false_eq_true, Nat.reduceLeDiff, Nat.reduceAdd, if_false, if_true]
      repeat (go_big_quiet_step (first | (go_at_call 17; exact in_later (refMeet_at _ _ _ _ _ _ _ _ _ hx hy ha hb hx2 hy2 ha2 hb2 _ _ _ _ HM.out))))
      exact wpQuiet_nil rfl
    case hown =>
      intro e he o ho
      simp only [List.mem_cons, List.not_mem_nil, or_false] at he
      rcases he with rfl | rfl
      · cases ho; intro x hx; simp [go_sem, execOp]; exact HC.out _
      · cases ho; exact step_var (fun r x => by simp [go_sem, execOp])
    case htail =>
      intro g u hst hne
      have b_w2 : AnyLater w1 (later u) := ⟨u, rfl⟩
      generalize later u = w2 at *
      clear u
      obtain ⟨p12_w2, o12_w2⟩ := hst _ (List.mem_of_getElem? (i := 0) rfl)
      dsimp only at p12_w2 o12_w2
      obtain ⟨⟨b6, e6, s2_w2⟩, o6_w2⟩ := hst _ (List.mem_of_getElem? (i := 1) rfl)
      dsimp only at e6 o6_w2
      have o6_w2 := o6_w2 b6 (by rw [e6]; rfl)
      have d0_1 := hne _ (List.mem_of_getElem? (i := 0) rfl) _ (List.mem_of_getElem? (i := 1) rfl) (by dsimp only; omega)
      dsimp only at d0_1
      have d0_1 : vblk (g 2) ≠ some b6 := fun h => d0_1 b6 h (by rw [e6]; rfl)
      clear hst hne
      simp only [fillAll, Act.put, List.setIfInBounds_toArray, List.set_cons_zero, List.set_cons_succ, List.drop_succ_cons, List.drop_zero]
      generalize g 2 = v12 at *
      rw [e6]
      clear e6
      have z_w2 := b_w2.below.size
      have a_w2 := a_w1.trans b_w2
      have s0_w2 := any_own b_w2 s0_w1
      have s1_w2 := any_own b_w2 s1_w1
      have r0_w2 := own_row s0_w2
      have f0_w2 := own_free s0_w2
      have l0_w2 := own_lt s0_w2
      have r1_w2 := own_row s1_w2
      have f1_w2 := own_free s1_w2
      have l1_w2 := own_lt s1_w2
      (try clear r0_w1); (try clear f0_w1)
      (try clear r1_w1); (try clear f1_w1)
      have r2_w2 := own_row s2_w2
      have f2_w2 := own_free s2_w2
      have l2_w2 := own_lt s2_w2
      rcases p12_w2.2 with ⟨rfl, h0⟩ | ⟨g, cap, cur, rfl, _, s3_w2, hc1, hc2, hc3, hc4⟩
      all_goals
        go_wp2_with fail
        first | refine settle_wp (fun wS => AnyLater w1 wS ∧ wS.heap[b6]? = some (.cells #[.int .i64 mx, .int .i64 my, .int .i64 ma, .int .i64 mb] 23)) ?_ ?_ | refine settle_calls (fun wS => AnyLater w1 wS ∧ wS.heap[b6]? = some (.cells #[.int .i64 mx, .int .i64 my, .int .i64 ma, .int .i64 mb] 23)) ?_ ?_
        · refine ⟨?_, ?_⟩
          · repeat' (first | with_reducible assumption | with_reducible exact AnyLater.refl _ | with_reducible apply AnyLater.setCell | with_reducible apply AnyLater.later | with_reducible apply AnyLater.drewN | with_reducible apply AnyLater.drew | with_reducible apply AnyLater.alloc | ((try simp only [World.size_alloc, World.size_setCell, World.size_drew]); (try dsimp only); omega))
          · ((repeat (first | with_reducible assumption | ((with_reducible apply heap_new); (try simp only [World.size_alloc, World.size_setCell, World.size_drew, World.heap_drewN]); done) | ((with_reducible apply heap_new); (try simp only [World.size_alloc, World.size_setCell, World.size_drew, World.heap_drewN]); omega) | (with_reducible refine heap_old (by (try simp only [World.size_alloc, World.size_setCell, World.size_drew, World.heap_drewN]); omega) ?_) | (with_reducible refine heap_drew ?_) | (with_reducible refine heap_far (by omega) ?_) | (with_reducible apply heap_at))); all_goals rfl)
        rintro w3 ⟨b_w3, s2_w3⟩
        have a_w3 := a_w1.trans b_w3
        have s0_w3 := any_own b_w3 s0_w1
        have s1_w3 := any_own b_w3 s1_w1
        have r0_w3 := own_row s0_w3
        have f0_w3 := own_free s0_w3
        have l0_w3 := own_lt s0_w3
        have r1_w3 := own_row s1_w3
        have f1_w3 := own_free s1_w3
        have l1_w3 := own_lt s1_w3
        (try clear r0_w1); (try clear f0_w1)
        (try clear r1_w1); (try clear f1_w1)
        have r2_w3 := own_row s2_w3
        have f2_w3 := own_free s2_w3
        have l2_w3 := own_lt s2_w3
        have z_w3 := b_w3.below.size
        refine (any_any _ _ _ _ _ _ g1 (by omega) (by omega) (by omega) (by omega)).mono ?_
        rintro e w4 ⟨rfl, b_w4⟩
        have z_w4 := b_w4.below.size
        have a_w4 := a_w3.trans b_w4
        have s0_w4 := any_own b_w4 s0_w3
        have s1_w4 := any_own b_w4 s1_w3
        have s2_w4 := any_own b_w4 s2_w3
        have r0_w4 := own_row s0_w4
        have f0_w4 := own_free s0_w4
        have l0_w4 := own_lt s0_w4
        have r1_w4 := own_row s1_w4
        have f1_w4 := own_free s1_w4
        have l1_w4 := own_lt s1_w4
        have r2_w4 := own_row s2_w4
        have f2_w4 := own_free s2_w4
        have l2_w4 := own_lt s2_w4
        (try clear r0_w3); (try clear f0_w3)
        (try clear r1_w3); (try clear f1_w3)
        (try clear r2_w3); (try clear f2_w3)
        go_wp2_with (go_at_call 14; refine (lives02 _).mono ?_; rintro e w5 ⟨rfl, b_w5⟩)
        go_ret
        exact ⟨rfl, a_w4.trans b_w5⟩
  | true =>
    have ai := anyB_in g1
    cases g2 : anyB mx my ma mb with
    | false =>
      have hL1 : L = [⟨x, y, a, b⟩] := by
        have := HL.out
        unfold lessR at this
        rw [HM.out] at this
        unfold Rc.any at this
        simp only [g1, g2, Bool.false_eq_true, if_false, if_true] at this
        exact this.symm
      subst hL1
      go_enter Try.func6, Try.ntmps6
      go_wp2_with fail
      first | refine settle_wp (fun wS => AnyLater w wS ∧ wS.heap[w.heap.size]? = some (.cells #[.int .i64 x, .int .i64 y, .int .i64 a, .int .i64 b] 23) ∧ wS.heap[w.heap.size + 1]? = some (.cells #[.int .i64 x2, .int .i64 y2, .int .i64 a2, .int .i64 b2] 23)) ?_ ?_ | refine settle_calls (fun wS => AnyLater w wS ∧ wS.heap[w.heap.size]? = some (.cells #[.int .i64 x, .int .i64 y, .int .i64 a, .int .i64 b] 23) ∧ wS.heap[w.heap.size + 1]? = some (.cells #[.int .i64 x2, .int .i64 y2, .int .i64 a2, .int .i64 b2] 23)) ?_ ?_
      · refine ⟨?_, ?_, ?_⟩
        · repeat' (first | with_reducible assumption | with_reducible exact AnyLater.refl _ | with_reducible apply AnyLater.setCell | with_reducible apply AnyLater.later | with_reducible apply AnyLater.drewN | with_reducible apply AnyLater.drew | with_reducible apply AnyLater.alloc | ((try simp only [World.size_alloc, World.size_setCell, World.size_drew]); (try dsimp only); omega))
        · ((repeat (first | with_reducible assumption | ((with_reducible apply heap_new); (try simp only [World.size_alloc, World.size_setCell, World.size_drew, World.heap_drewN]); done) | ((with_reducible apply heap_new); (try simp only [World.size_alloc, World.size_setCell, World.size_drew, World.heap_drewN]); omega) | (with_reducible refine heap_old (by (try simp only [World.size_alloc, World.size_setCell, World.size_drew, World.heap_drewN]); omega) ?_) | (with_reducible refine heap_drew ?_) | (with_reducible refine heap_far (by omega) ?_) | (with_reducible apply heap_at))); all_goals rfl)
        · ((repeat (first | with_reducible assumption | ((with_reducible apply heap_new); (try simp only [World.size_alloc, World.size_setCell, World.size_drew, World.heap_drewN]); done) | ((with_reducible apply heap_new); (try simp only [World.size_alloc, World.size_setCell, World.size_drew, World.heap_drewN]); omega) | (with_reducible refine heap_old (by (try simp only [World.size_alloc, World.size_setCell, World.size_drew, World.heap_drewN]); omega) ?_) | (with_reducible refine heap_drew ?_) | (with_reducible refine heap_far (by omega) ?_) | (with_reducible apply heap_at))); all_goals rfl)
      rintro w1 ⟨b_w1, s0_w1, s1_w1⟩
      have a_w1 := b_w1
      have r0_w1 := own_row s0_w1
      have f0_w1 := own_free s0_w1
      have l0_w1 := own_lt s0_w1
      have r1_w1 := own_row s1_w1
      have f1_w1 := own_free s1_w1
      have l1_w1 := own_lt s1_w1
      have z_w1 := b_w1.below.size
      apply wp_region_mem (7) [⟨2, 12, isRects [⟨x, y, a, b⟩]⟩, ⟨6, 6, isVar (.cells #[.int .i64 0, .int .i64 0, .int .i64 0, .int .i64 0] 23)⟩] (by kernel_rfl) (by kernel_rfl) (by simp)
      case hstab =>
        intro e he v x y hxy hv
        simp only [List.mem_cons, List.not_mem_nil, or_false] at he
        rcases he with rfl | rfl
        · exact isRects_stays hxy hv
        · exact isVar_stays hxy hv
      case hlex =>
        intro U
        have q0 := fun (v : Later (later U)) => own_row (any_own ⟨v, rfl⟩ (any_own ⟨U, rfl⟩ s0_w1))
        have q1 := fun (v : Later (later U)) => own_row (any_own ⟨v, rfl⟩ (any_own ⟨U, rfl⟩ s1_w1))
        simp only [absFrom, absOp, idx, List.map_cons, List.map_nil, List.contains_cons, List.contains_nil, Nat.reduceBEq, Bool.or_false, Bool.false_or, Bool.true_or, Bool.or_true, Bool.false_eq_true, Nat.reduceLeDiff, Nat.reduceAdd, if_false, if_true]
        repeat (go_big_quiet_step (first | (go_at_call 17; exact in_later (refMeet_at _ _ _ _ _ _ _ _ _ hx hy ha hb hx2 hy2 ha2 hb2 _ _ _ _ HM.out))))
        exact wpQuiet_nil rfl
      case hown =>
        intro e he o ho
        simp only [List.mem_cons, List.not_mem_nil, or_false] at he
        rcases he with rfl | rfl
        · cases ho; intro x hx; simp [go_sem, execOp]; exact HC.out _
        · cases ho; exact step_var (fun r x => by simp [go_sem, execOp])
      case htail =>
        intro g u hst hne
        have b_w2 : AnyLater w1 (later u) := ⟨u, rfl⟩
        generalize later u = w2 at *
        clear u
        obtain ⟨p12_w2, o12_w2⟩ := hst _ (List.mem_of_getElem? (i := 0) rfl)
        dsimp only at p12_w2 o12_w2
        obtain ⟨⟨b6, e6, s2_w2⟩, o6_w2⟩ := hst _ (List.mem_of_getElem? (i := 1) rfl)
        dsimp only at e6 o6_w2
        have o6_w2 := o6_w2 b6 (by rw [e6]; rfl)
        have d0_1 := hne _ (List.mem_of_getElem? (i := 0) rfl) _ (List.mem_of_getElem? (i := 1) rfl) (by dsimp only; omega)
        dsimp only at d0_1
        have d0_1 : vblk (g 2) ≠ some b6 := fun h => d0_1 b6 h (by rw [e6]; rfl)
        clear hst hne
        simp only [fillAll, Act.put, List.setIfInBounds_toArray, List.set_cons_zero, List.set_cons_succ, List.drop_succ_cons, List.drop_zero]
        generalize g 2 = v12 at *
        rw [e6]
        clear e6
        have z_w2 := b_w2.below.size
        have a_w2 := a_w1.trans b_w2
        have s0_w2 := any_own b_w2 s0_w1
        have s1_w2 := any_own b_w2 s1_w1
        have r0_w2 := own_row s0_w2
        have f0_w2 := own_free s0_w2
        have l0_w2 := own_lt s0_w2
        have r1_w2 := own_row s1_w2
        have f1_w2 := own_free s1_w2
        have l1_w2 := own_lt s1_w2
        (try clear r0_w1); (try clear f0_w1)
        (try clear r1_w1); (try clear f1_w1)
        have r2_w2 := own_row s2_w2
        have f2_w2 := own_free s2_w2
        have l2_w2 := own_lt s2_w2
        rcases p12_w2.2 with ⟨_, h0⟩ | ⟨g, cap, cur, rfl, _, s3_w2, hc1, hc2, hc3, hc4⟩
        · exact absurd h0 (by simp)
        · have hne : g ≠ b6 := fun h => d0_1 (by rw [h]; rfl)
          have q0 := cur_get hc4 (k := 0) rfl (j := 0) (by omega)
          have q1 := cur_get hc4 (k := 0) rfl (j := 1) (by omega)
          have q2 := cur_get hc4 (k := 0) rfl (j := 2) (by omega)
          have q3 := cur_get hc4 (k := 0) rfl (j := 3) (by omega)
          simp only [Rc.cells, Nat.add_zero, Nat.zero_mul, Nat.zero_add, List.getElem?_cons_zero, List.getElem?_cons_succ] at q0 q1 q2 q3
          go_wp2_with fail
          first | refine settle_wp (fun wS => AnyLater w1 wS ∧ wS.heap[b6]? = some (.cells #[.int .i64 mx, .int .i64 my, .int .i64 ma, .int .i64 mb] 23) ∧ wS.heap[g]? = some (.cells cur 23 (0, 0))) ?_ ?_ | refine settle_calls (fun wS => AnyLater w1 wS ∧ wS.heap[b6]? = some (.cells #[.int .i64 mx, .int .i64 my, .int .i64 ma, .int .i64 mb] 23) ∧ wS.heap[g]? = some (.cells cur 23 (0, 0))) ?_ ?_
          · refine ⟨?_, ?_, ?_⟩
            · repeat' (first | with_reducible assumption | with_reducible exact AnyLater.refl _ | with_reducible apply AnyLater.setCell | with_reducible apply AnyLater.later | with_reducible apply AnyLater.drewN | with_reducible apply AnyLater.drew | with_reducible apply AnyLater.alloc | ((try simp only [World.size_alloc, World.size_setCell, World.size_drew]); (try dsimp only); omega))
            · ((repeat (first | with_reducible assumption | ((with_reducible apply heap_new); (try simp only [World.size_alloc, World.size_setCell, World.size_drew, World.heap_drewN]); done) | ((with_reducible apply heap_new); (try simp only [World.size_alloc, World.size_setCell, World.size_drew, World.heap_drewN]); omega) | (with_reducible refine heap_old (by (try simp only [World.size_alloc, World.size_setCell, World.size_drew, World.heap_drewN]); omega) ?_) | (with_reducible refine heap_drew ?_) | (with_reducible refine heap_far (by omega) ?_) | (with_reducible apply heap_at))); all_goals rfl)
            · ((repeat (first | with_reducible assumption | ((with_reducible apply heap_new); (try simp only [World.size_alloc, World.size_setCell, World.size_drew, World.heap_drewN]); done) | ((with_reducible apply heap_new); (try simp only [World.size_alloc, World.size_setCell, World.size_drew, World.heap_drewN]); omega) | (with_reducible refine heap_old (by (try simp only [World.size_alloc, World.size_setCell, World.size_drew, World.heap_drewN]); omega) ?_) | (with_reducible refine heap_drew ?_) | (with_reducible refine heap_far (by omega) ?_) | (with_reducible apply heap_at))); all_goals rfl)
          rintro w3 ⟨b_w3, s2_w3, s3_w3⟩
          have a_w3 := a_w1.trans b_w3
          have s0_w3 := any_own b_w3 s0_w1
          have s1_w3 := any_own b_w3 s1_w1
          have r0_w3 := own_row s0_w3
          have f0_w3 := own_free s0_w3
          have l0_w3 := own_lt s0_w3
          have r1_w3 := own_row s1_w3
          have f1_w3 := own_free s1_w3
          have l1_w3 := own_lt s1_w3
          (try clear r0_w1); (try clear f0_w1)
          (try clear r1_w1); (try clear f1_w1)
          have r2_w3 := own_row s2_w3
          have f2_w3 := own_free s2_w3
          have l2_w3 := own_lt s2_w3
          have r3_w3 := own_row s3_w3
          have f3_w3 := own_free s3_w3
          have l3_w3 := own_lt s3_w3
          have z_w3 := b_w3.below.size
          refine (any_any _ _ _ _ _ _ g1 (by omega) (by omega) (by omega) (by omega)).mono ?_
          rintro e w4 ⟨rfl, b_w4⟩
          have z_w4 := b_w4.below.size
          have a_w4 := a_w3.trans b_w4
          have s0_w4 := any_own b_w4 s0_w3
          have s1_w4 := any_own b_w4 s1_w3
          have s2_w4 := any_own b_w4 s2_w3
          have s3_w4 := any_own b_w4 s3_w3
          have r0_w4 := own_row s0_w4
          have f0_w4 := own_free s0_w4
          have l0_w4 := own_lt s0_w4
          have r1_w4 := own_row s1_w4
          have f1_w4 := own_free s1_w4
          have l1_w4 := own_lt s1_w4
          have r2_w4 := own_row s2_w4
          have f2_w4 := own_free s2_w4
          have l2_w4 := own_lt s2_w4
          have r3_w4 := own_row s3_w4
          have f3_w4 := own_free s3_w4
          have l3_w4 := own_lt s3_w4
          (try clear r0_w3); (try clear f0_w3)
          (try clear r1_w3); (try clear f1_w3)
          (try clear r2_w3); (try clear f2_w3)
          (try clear r3_w3); (try clear f3_w3)
          go_wp2_with fail
          refine (any_any _ _ _ _ _ _ g2 (by omega) (by omega) (by omega) (by omega)).mono ?_
          rintro e w5 ⟨rfl, b_w5⟩
          have z_w5 := b_w5.below.size
          have a_w5 := a_w4.trans b_w5
          have s0_w5 := any_own b_w5 s0_w4
          have s1_w5 := any_own b_w5 s1_w4
          have s2_w5 := any_own b_w5 s2_w4
          have s3_w5 := any_own b_w5 s3_w4
          have r0_w5 := own_row s0_w5
          have f0_w5 := own_free s0_w5
          have l0_w5 := own_lt s0_w5
          have r1_w5 := own_row s1_w5
          have f1_w5 := own_free s1_w5
          have l1_w5 := own_lt s1_w5
          have r2_w5 := own_row s2_w5
          have f2_w5 := own_free s2_w5
          have l2_w5 := own_lt s2_w5
          have r3_w5 := own_row s3_w5
          have f3_w5 := own_free s3_w5
          have l3_w5 := own_lt s3_w5
          (try clear r0_w4); (try clear f0_w4)
          (try clear r1_w4); (try clear f1_w4)
          (try clear r2_w4); (try clear f2_w4)
          (try clear r3_w4); (try clear f3_w4)
          go_wp2_with fail
          apply wp_region_mem (14) [] (by kernel_rfl) (by kernel_rfl) (by simp)
          case hstab =>
            intro e he v x y hxy hv
            simp only [List.mem_cons, List.not_mem_nil, or_false] at he
          case hlex =>
            intro U
            have q0 := fun (v : Later (later U)) => own_row (any_own ⟨v, rfl⟩ (any_own ⟨U, rfl⟩ s0_w5))
            have q1 := fun (v : Later (later U)) => own_row (any_own ⟨v, rfl⟩ (any_own ⟨U, rfl⟩ s1_w5))
            have q2 := fun (v : Later (later U)) => own_row (any_own ⟨v, rfl⟩ (any_own ⟨U, rfl⟩ s2_w5))
            have q3 := fun (v : Later (later U)) => own_row (any_own ⟨v, rfl⟩ (any_own ⟨U, rfl⟩ s3_w5))
            simp only [absFrom, absOp, idx, List.map_cons, List.map_nil, List.contains_cons, List.contains_nil, Nat.reduceBEq, Bool.or_false, Bool.false_or, Bool.true_or, Bool.or_true, Bool.false_eq_true, Nat.reduceLeDiff, Nat.reduceAdd, if_false, if_true]
            repeat (go_big_quiet_step (first | (go_at_call 14; exact in_later (lives02 _))))
            exact wpQuiet_nil rfl
          case hown =>
            intro e he o ho
            simp only [List.mem_cons, List.not_mem_nil, or_false] at he
          case htail =>
            intro g u hst hne
            have b_w6 : AnyLater w5 (later u) := ⟨u, rfl⟩
            generalize later u = w6 at *
            clear u
            clear hst hne
            simp only [fillAll, Act.put, List.setIfInBounds_toArray, List.set_cons_zero, List.set_cons_succ, List.drop_succ_cons, List.drop_zero]
            have z_w6 := b_w6.below.size
            have a_w6 := a_w5.trans b_w6
            have s0_w6 := any_own b_w6 s0_w5
            have s1_w6 := any_own b_w6 s1_w5
            have s2_w6 := any_own b_w6 s2_w5
            have s3_w6 := any_own b_w6 s3_w5
            have r0_w6 := own_row s0_w6
            have f0_w6 := own_free s0_w6
            have l0_w6 := own_lt s0_w6
            have r1_w6 := own_row s1_w6
            have f1_w6 := own_free s1_w6
            have l1_w6 := own_lt s1_w6
            have r2_w6 := own_row s2_w6
            have f2_w6 := own_free s2_w6
            have l2_w6 := own_lt s2_w6
            have r3_w6 := own_row s3_w6
            have f3_w6 := own_free s3_w6
            have l3_w6 := own_lt s3_w6
            (try clear r0_w5); (try clear f0_w5)
            (try clear r1_w5); (try clear f1_w5)
            (try clear r2_w5); (try clear f2_w5)
            (try clear r3_w5); (try clear f3_w5)
            go_wp2
            go_ret
            exact ⟨rfl, a_w6⟩
    | true =>
      obtain ⟨i1, i2, i3, i4, i5, i6, i7, i8⟩ := ai
      obtain ⟨j1, j2, j3, j4, j5, j6, j7, j8⟩ := anyB_in g2
      obtain ⟨⟨m1, m2⟩, m3, m4⟩ := meet_inside HM.out g2
      obtain ⟨ps, hps⟩ : ∃ ps, aroundR ⟨x, y, a, b⟩ ⟨mx, my, ma, mb⟩ = ps := ⟨_, rfl⟩
      have hK : L = kept ps 4 := by
        have := HL.out
        unfold lessR at this
        rw [HM.out] at this
        unfold Rc.any at this
        simp only [g1, g2, if_true] at this
        rw [← this, ← hps]; rfl
      have HP := Lib.hid hps
      have HK := Lib.hid hK
      clear hps hK
      go_enter Try.func6, Try.ntmps6
      go_wp2_with fail
      first | refine settle_wp (fun wS => AnyLater w wS ∧ wS.heap[w.heap.size]? = some (.cells #[.int .i64 x, .int .i64 y, .int .i64 a, .int .i64 b] 23) ∧ wS.heap[w.heap.size + 1]? = some (.cells #[.int .i64 x2, .int .i64 y2, .int .i64 a2, .int .i64 b2] 23)) ?_ ?_ | refine settle_calls (fun wS => AnyLater w wS ∧ wS.heap[w.heap.size]? = some (.cells #[.int .i64 x, .int .i64 y, .int .i64 a, .int .i64 b] 23) ∧ wS.heap[w.heap.size + 1]? = some (.cells #[.int .i64 x2, .int .i64 y2, .int .i64 a2, .int .i64 b2] 23)) ?_ ?_
      · refine ⟨?_, ?_, ?_⟩
        · repeat' (first | with_reducible assumption | with_reducible exact AnyLater.refl _ | with_reducible apply AnyLater.setCell | with_reducible apply AnyLater.later | with_reducible apply AnyLater.drewN | with_reducible apply AnyLater.drew | with_reducible apply AnyLater.alloc | ((try simp only [World.size_alloc, World.size_setCell, World.size_drew]); (try dsimp only); omega))
        · ((repeat (first | with_reducible assumption | ((with_reducible apply heap_new); (try simp only [World.size_alloc, World.size_setCell, World.size_drew, World.heap_drewN]); done) | ((with_reducible apply heap_new); (try simp only [World.size_alloc, World.size_setCell, World.size_drew, World.heap_drewN]); omega) | (with_reducible refine heap_old (by (try simp only [World.size_alloc, World.size_setCell, World.size_drew, World.heap_drewN]); omega) ?_) | (with_reducible refine heap_drew ?_) | (with_reducible refine heap_far (by omega) ?_) | (with_reducible apply heap_at))); all_goals rfl)
        · ((repeat (first | with_reducible assumption | ((with_reducible apply heap_new); (try simp only [World.size_alloc, World.size_setCell, World.size_drew, World.heap_drewN]); done) | ((with_reducible apply heap_new); (try simp only [World.size_alloc, World.size_setCell, World.size_drew, World.heap_drewN]); omega) | (with_reducible refine heap_old (by (try simp only [World.size_alloc, World.size_setCell, World.size_drew, World.heap_drewN]); omega) ?_) | (with_reducible refine heap_drew ?_) | (with_reducible refine heap_far (by omega) ?_) | (with_reducible apply heap_at))); all_goals rfl)
      rintro w1 ⟨b_w1, s0_w1, s1_w1⟩
      have a_w1 := b_w1
      have r0_w1 := own_row s0_w1
      have f0_w1 := own_free s0_w1
      have l0_w1 := own_lt s0_w1
      have r1_w1 := own_row s1_w1
      have f1_w1 := own_free s1_w1
      have l1_w1 := own_lt s1_w1
      have z_w1 := b_w1.below.size
      apply wp_region_mem (7) [⟨2, 12, isRects L⟩, ⟨6, 6, isVar (.cells #[.int .i64 0, .int .i64 0, .int .i64 0, .int .i64 0] 23)⟩] (by kernel_rfl) (by kernel_rfl) (by simp)
      case hstab =>
        intro e he v x y hxy hv
        simp only [List.mem_cons, List.not_mem_nil, or_false] at he
        rcases he with rfl | rfl
        · exact isRects_stays hxy hv
        · exact isVar_stays hxy hv
      case hlex =>
        intro U
        have q0 := fun (v : Later (later U)) => own_row (any_own ⟨v, rfl⟩ (any_own ⟨U, rfl⟩ s0_w1))
        have q1 := fun (v : Later (later U)) => own_row (any_own ⟨v, rfl⟩ (any_own ⟨U, rfl⟩ s1_w1))
        simp only [absFrom, absOp, idx, List.map_cons, List.map_nil, List.contains_cons, List.contains_nil, Nat.reduceBEq, Bool.or_false, Bool.false_or, Bool.true_or, Bool.or_true, Bool.false_eq_true, Nat.reduceLeDiff, Nat.reduceAdd, if_false, if_true]
        repeat (go_big_quiet_step (first | (go_at_call 17; exact in_later (refMeet_at _ _ _ _ _ _ _ _ _ hx hy ha hb hx2 hy2 ha2 hb2 _ _ _ _ HM.out))))
        exact wpQuiet_nil rfl
      case hown =>
        intro e he o ho
        simp only [List.mem_cons, List.not_mem_nil, or_false] at he
        rcases he with rfl | rfl
        · cases ho; intro x hx; simp [go_sem, execOp]; exact HC.out _
        · cases ho; exact step_var (fun r x => by simp [go_sem, execOp])
      case htail =>
        intro g u hst hne
        have b_w2 : AnyLater w1 (later u) := ⟨u, rfl⟩
        generalize later u = w2 at *
        clear u
        obtain ⟨p12_w2, o12_w2⟩ := hst _ (List.mem_of_getElem? (i := 0) rfl)
        dsimp only at p12_w2 o12_w2
        obtain ⟨⟨b6, e6, s2_w2⟩, o6_w2⟩ := hst _ (List.mem_of_getElem? (i := 1) rfl)
        dsimp only at e6 o6_w2
        have o6_w2 := o6_w2 b6 (by rw [e6]; rfl)
        have d0_1 := hne _ (List.mem_of_getElem? (i := 0) rfl) _ (List.mem_of_getElem? (i := 1) rfl) (by dsimp only; omega)
        dsimp only at d0_1
        have d0_1 : vblk (g 2) ≠ some b6 := fun h => d0_1 b6 h (by rw [e6]; rfl)
        clear hst hne
        simp only [fillAll, Act.put, List.setIfInBounds_toArray, List.set_cons_zero, List.set_cons_succ, List.drop_succ_cons, List.drop_zero]
        generalize g 2 = v12 at *
        rw [e6]
        clear e6
        have z_w2 := b_w2.below.size
        have a_w2 := a_w1.trans b_w2
        have s0_w2 := any_own b_w2 s0_w1
        have s1_w2 := any_own b_w2 s1_w1
        have r0_w2 := own_row s0_w2
        have f0_w2 := own_free s0_w2
        have l0_w2 := own_lt s0_w2
        have r1_w2 := own_row s1_w2
        have f1_w2 := own_free s1_w2
        have l1_w2 := own_lt s1_w2
        (try clear r0_w1); (try clear f0_w1)
        (try clear r1_w1); (try clear f1_w1)
        have r2_w2 := own_row s2_w2
        have f2_w2 := own_free s2_w2
        have l2_w2 := own_lt s2_w2
        rcases p12_w2.2 with ⟨rfl, h0⟩ | ⟨g, cap, cur, rfl, _, s3_w2, hc1, hc2, hc3, hc4⟩
        · have hL0 : L = [] := List.eq_nil_of_length_eq_zero h0
          go_wp2_with fail
          first | refine settle_wp (fun wS => AnyLater w1 wS ∧ wS.heap[b6]? = some (.cells #[.int .i64 mx, .int .i64 my, .int .i64 ma, .int .i64 mb] 23)) ?_ ?_ | refine settle_calls (fun wS => AnyLater w1 wS ∧ wS.heap[b6]? = some (.cells #[.int .i64 mx, .int .i64 my, .int .i64 ma, .int .i64 mb] 23)) ?_ ?_
          · refine ⟨?_, ?_⟩
            · repeat' (first | with_reducible assumption | with_reducible exact AnyLater.refl _ | with_reducible apply AnyLater.setCell | with_reducible apply AnyLater.later | with_reducible apply AnyLater.drewN | with_reducible apply AnyLater.drew | with_reducible apply AnyLater.alloc | ((try simp only [World.size_alloc, World.size_setCell, World.size_drew]); (try dsimp only); omega))
            · ((repeat (first | with_reducible assumption | ((with_reducible apply heap_new); (try simp only [World.size_alloc, World.size_setCell, World.size_drew, World.heap_drewN]); done) | ((with_reducible apply heap_new); (try simp only [World.size_alloc, World.size_setCell, World.size_drew, World.heap_drewN]); omega) | (with_reducible refine heap_old (by (try simp only [World.size_alloc, World.size_setCell, World.size_drew, World.heap_drewN]); omega) ?_) | (with_reducible refine heap_drew ?_) | (with_reducible refine heap_far (by omega) ?_) | (with_reducible apply heap_at))); all_goals rfl)
          rintro w3 ⟨b_w3, s2_w3⟩
          have a_w3 := a_w1.trans b_w3
          have s0_w3 := any_own b_w3 s0_w1
          have s1_w3 := any_own b_w3 s1_w1
          have r0_w3 := own_row s0_w3
          have f0_w3 := own_free s0_w3
          have l0_w3 := own_lt s0_w3
          have r1_w3 := own_row s1_w3
          have f1_w3 := own_free s1_w3
          have l1_w3 := own_lt s1_w3
          (try clear r0_w1); (try clear f0_w1)
          (try clear r1_w1); (try clear f1_w1)
          have r2_w3 := own_row s2_w3
          have f2_w3 := own_free s2_w3
          have l2_w3 := own_lt s2_w3
          have z_w3 := b_w3.below.size
          refine (any_any _ _ _ _ _ _ g1 (by omega) (by omega) (by omega) (by omega)).mono ?_
          rintro e w4 ⟨rfl, b_w4⟩
          have z_w4 := b_w4.below.size
          have a_w4 := a_w3.trans b_w4
          have s0_w4 := any_own b_w4 s0_w3
          have s1_w4 := any_own b_w4 s1_w3
          have s2_w4 := any_own b_w4 s2_w3
          have r0_w4 := own_row s0_w4
          have f0_w4 := own_free s0_w4
          have l0_w4 := own_lt s0_w4
          have r1_w4 := own_row s1_w4
          have f1_w4 := own_free s1_w4
          have l1_w4 := own_lt s1_w4
          have r2_w4 := own_row s2_w4
          have f2_w4 := own_free s2_w4
          have l2_w4 := own_lt s2_w4
          (try clear r0_w3); (try clear f0_w3)
          (try clear r1_w3); (try clear f1_w3)
          (try clear r2_w3); (try clear f2_w3)
          go_wp2_with fail
          refine (any_any _ _ _ _ _ _ g2 (by omega) (by omega) (by omega) (by omega)).mono ?_
          rintro e w5 ⟨rfl, b_w5⟩
          have z_w5 := b_w5.below.size
          have a_w5 := a_w4.trans b_w5
          have s0_w5 := any_own b_w5 s0_w4
          have s1_w5 := any_own b_w5 s1_w4
          have s2_w5 := any_own b_w5 s2_w4
          have r0_w5 := own_row s0_w5
          have f0_w5 := own_free s0_w5
          have l0_w5 := own_lt s0_w5
          have r1_w5 := own_row s1_w5
          have f1_w5 := own_free s1_w5
          have l1_w5 := own_lt s1_w5
          have r2_w5 := own_row s2_w5
          have f2_w5 := own_free s2_w5
          have l2_w5 := own_lt s2_w5
          (try clear r0_w4); (try clear f0_w4)
          (try clear r1_w4); (try clear f1_w4)
          (try clear r2_w4); (try clear f2_w4)
          go_wp2_with fail
          first | refine settle_wp (fun wS => AnyLater w5 wS ∧ wS.heap[w5.heap.size]? = some (.cells #[.int .i64 x, .int .i64 y, .int .i64 a, .int .i64 (my - y), .int .i64 x, .int .i64 my, .int .i64 (mx - x), .int .i64 mb, .int .i64 (mx + ma), .int .i64 my, .int .i64 (x + a - mx - ma), .int .i64 mb, .int .i64 x, .int .i64 (my + mb), .int .i64 a, .int .i64 (y + b - my - mb)] 23)) ?_ ?_ | refine settle_calls (fun wS => AnyLater w5 wS ∧ wS.heap[w5.heap.size]? = some (.cells #[.int .i64 x, .int .i64 y, .int .i64 a, .int .i64 (my - y), .int .i64 x, .int .i64 my, .int .i64 (mx - x), .int .i64 mb, .int .i64 (mx + ma), .int .i64 my, .int .i64 (x + a - mx - ma), .int .i64 mb, .int .i64 x, .int .i64 (my + mb), .int .i64 a, .int .i64 (y + b - my - mb)] 23)) ?_ ?_
          · refine ⟨?_, ?_⟩
            · repeat' (first | with_reducible assumption | with_reducible exact AnyLater.refl _ | with_reducible apply AnyLater.setCell | with_reducible apply AnyLater.later | with_reducible apply AnyLater.drewN | with_reducible apply AnyLater.drew | with_reducible apply AnyLater.alloc | ((try simp only [World.size_alloc, World.size_setCell, World.size_drew]); (try dsimp only); omega))
            · ((repeat (first | with_reducible assumption | ((with_reducible apply heap_new); (try simp only [World.size_alloc, World.size_setCell, World.size_drew, World.heap_drewN]); done) | ((with_reducible apply heap_new); (try simp only [World.size_alloc, World.size_setCell, World.size_drew, World.heap_drewN]); omega) | (with_reducible refine heap_old (by (try simp only [World.size_alloc, World.size_setCell, World.size_drew, World.heap_drewN]); omega) ?_) | (with_reducible refine heap_drew ?_) | (with_reducible refine heap_far (by omega) ?_) | (with_reducible apply heap_at))); all_goals rfl)
          rintro w7 ⟨b_w7, s3_w7⟩
          have a_w7 := a_w5.trans b_w7
          have s0_w7 := any_own b_w7 s0_w5
          have s1_w7 := any_own b_w7 s1_w5
          have s2_w7 := any_own b_w7 s2_w5
          have r0_w7 := own_row s0_w7
          have f0_w7 := own_free s0_w7
          have l0_w7 := own_lt s0_w7
          have r1_w7 := own_row s1_w7
          have f1_w7 := own_free s1_w7
          have l1_w7 := own_lt s1_w7
          have r2_w7 := own_row s2_w7
          have f2_w7 := own_free s2_w7
          have l2_w7 := own_lt s2_w7
          (try clear r0_w5); (try clear f0_w5)
          (try clear r1_w5); (try clear f1_w5)
          (try clear r2_w5); (try clear f2_w5)
          have r3_w7 := own_row s3_w7
          have f3_w7 := own_free s3_w7
          have l3_w7 := own_lt s3_w7
          have z_w7 := b_w7.below.size
          go_loopw [8, 9] (fun n i wr => ∃ k nk : Nat, k ≤ 4 ∧ i = .int .i64 k ∧ n = .int .i64 nk ∧ (kept ps k).length = nk ∧ AnyLater w7 wr) (fun _ i _ => 4 - (intOf i).toNat)
          case atStart => exact ⟨0, 0, by omega, rfl, rfl, rfl, AnyLater.refl _⟩
          case round =>
            obtain ⟨k, nk, hk, rfl, rfl, hn, b_wr⟩ := hrel
            have HN := Lib.hid hn
            clear hn
            have a_wr := a_w7.trans b_wr
            have s0_wr := any_own b_wr s0_w7
            have r0_wr := own_row s0_wr
            (try clear r0_w7); (try clear f0_w7)
            have s1_wr := any_own b_wr s1_w7
            have r1_wr := own_row s1_wr
            (try clear r1_w7); (try clear f1_w7)
            have s2_wr := any_own b_wr s2_w7
            have r2_wr := own_row s2_wr
            (try clear r2_w7); (try clear f2_w7)
            have s3_wr := any_own b_wr s3_w7
            have r3_wr := own_row s3_wr
            (try clear r3_w7); (try clear f3_w7)
            by_cases hlt : k < 4
            · rcases (by omega : k = 0 ∨ k = 1 ∨ k = 2 ∨ k = 3) with rfl | rfl | rfl | rfl
              · have hq : ps[0]? = some ⟨x, y, a, my - y⟩ := by rw [← HP.out]; rfl
                have HQ := Lib.hid hq
                clear hq
                rcases (by omega : a ≤ 0 ∨ (0 < a ∧ (my - y) ≤ 0) ∨ (0 < a ∧ 0 < (my - y))) with h1 | ⟨h1, h2⟩ | ⟨h1, h2⟩
                · have hF : anyB x y a (my - y) = false := by
                    cases h : anyB x y a (my - y) with
                    | false => rfl
                    | true => have := anyB_iff.1 h; omega
                  have HF := Lib.hid (kept_off HQ.out (show Rc.any _ = false from hF))
                  clear hF
                  first
                    | (exfalso; omega)
                    | (have z1 : a ≤ 0 ∧ 0 ≤ a := by omega
                       have t1 : (a == 0) = true := by rw [beq_iff_eq]; omega
                       clear z1
                       go_wp2
                       go_roundw
                       case rel => exact ⟨1, nk, by omega, rfl, rfl, by rw [HF.out]; exact HN.out, b_wr⟩
                       case measure => simp [intOf])
                · have hF : anyB x y a (my - y) = false := by
                    cases h : anyB x y a (my - y) with
                    | false => rfl
                    | true => have := anyB_iff.1 h; omega
                  have HF := Lib.hid (kept_off HQ.out (show Rc.any _ = false from hF))
                  clear hF
                  first
                    | (exfalso; omega)
                    | (have t1 : (a == 0) = false := by rw [beq_eq_false_iff_ne]; omega
                       have z1 : (my - y) ≤ 0 ∧ 0 ≤ (my - y) := by omega
                       have t2 : (my - y == 0) = true := by rw [beq_iff_eq]; omega
                       clear z1
                       go_wp2
                       go_roundw
                       case rel => exact ⟨1, nk, by omega, rfl, rfl, by rw [HF.out]; exact HN.out, b_wr⟩
                       case measure => simp [intOf])
                · have hT : anyB x y a (my - y) = true := anyB_iff.2 (by omega)
                  have t1 : (a == 0) = false := by rw [beq_eq_false_iff_ne]; omega
                  have t2 : (my - y == 0) = false := by rw [beq_eq_false_iff_ne]; omega
                  have hG := kept_get HQ.out (show Rc.any _ = true from hT) (show 0 < 4 by omega)
                  rw [← HK.out, HN.out] at hG
                  exfalso
                  rw [hL0] at hG
                  simp at hG
              · have hq : ps[1]? = some ⟨x, my, mx - x, mb⟩ := by rw [← HP.out]; rfl
                have HQ := Lib.hid hq
                clear hq
                rcases (by omega : (mx - x) ≤ 0 ∨ (0 < (mx - x) ∧ mb ≤ 0) ∨ (0 < (mx - x) ∧ 0 < mb)) with h1 | ⟨h1, h2⟩ | ⟨h1, h2⟩
                · have hF : anyB x my (mx - x) mb = false := by
                    cases h : anyB x my (mx - x) mb with
                    | false => rfl
                    | true => have := anyB_iff.1 h; omega
                  have HF := Lib.hid (kept_off HQ.out (show Rc.any _ = false from hF))
                  clear hF
                  first
                    | (exfalso; omega)
                    | (have z1 : (mx - x) ≤ 0 ∧ 0 ≤ (mx - x) := by omega
                       have t1 : (mx - x == 0) = true := by rw [beq_iff_eq]; omega
                       clear z1
                       go_wp2
                       go_roundw
                       case rel => exact ⟨2, nk, by omega, rfl, rfl, by rw [HF.out]; exact HN.out, b_wr⟩
                       case measure => simp [intOf])
                · have hF : anyB x my (mx - x) mb = false := by
                    cases h : anyB x my (mx - x) mb with
                    | false => rfl
                    | true => have := anyB_iff.1 h; omega
                  have HF := Lib.hid (kept_off HQ.out (show Rc.any _ = false from hF))
                  clear hF
                  first
                    | (exfalso; omega)
                    | (have t1 : (mx - x == 0) = false := by rw [beq_eq_false_iff_ne]; omega
                       have z1 : mb ≤ 0 ∧ 0 ≤ mb := by omega
                       have t2 : (mb == 0) = true := by rw [beq_iff_eq]; omega
                       clear z1
                       go_wp2
                       go_roundw
                       case rel => exact ⟨2, nk, by omega, rfl, rfl, by rw [HF.out]; exact HN.out, b_wr⟩
                       case measure => simp [intOf])
                · have hT : anyB x my (mx - x) mb = true := anyB_iff.2 (by omega)
                  have t1 : (mx - x == 0) = false := by rw [beq_eq_false_iff_ne]; omega
                  have t2 : (mb == 0) = false := by rw [beq_eq_false_iff_ne]; omega
                  have hG := kept_get HQ.out (show Rc.any _ = true from hT) (show 1 < 4 by omega)
                  rw [← HK.out, HN.out] at hG
                  exfalso
                  rw [hL0] at hG
                  simp at hG
              · have hq : ps[2]? = some ⟨mx + ma, my, x + a - mx - ma, mb⟩ := by rw [← HP.out]; rfl
                have HQ := Lib.hid hq
                clear hq
                rcases (by omega : (x + a - mx - ma) ≤ 0 ∨ (0 < (x + a - mx - ma) ∧ mb ≤ 0) ∨ (0 < (x + a - mx - ma) ∧ 0 < mb)) with h1 | ⟨h1, h2⟩ | ⟨h1, h2⟩
                · have hF : anyB (mx + ma) my (x + a - mx - ma) mb = false := by
                    cases h : anyB (mx + ma) my (x + a - mx - ma) mb with
                    | false => rfl
                    | true => have := anyB_iff.1 h; omega
                  have HF := Lib.hid (kept_off HQ.out (show Rc.any _ = false from hF))
                  clear hF
                  first
                    | (exfalso; omega)
                    | (have z1 : (x + a - mx - ma) ≤ 0 ∧ 0 ≤ (x + a - mx - ma) := by omega
                       have t1 : (x + a - mx - ma == 0) = true := by rw [beq_iff_eq]; omega
                       clear z1
                       go_wp2
                       go_roundw
                       case rel => exact ⟨3, nk, by omega, rfl, rfl, by rw [HF.out]; exact HN.out, b_wr⟩
                       case measure => simp [intOf])
                · have hF : anyB (mx + ma) my (x + a - mx - ma) mb = false := by
                    cases h : anyB (mx + ma) my (x + a - mx - ma) mb with
                    | false => rfl
                    | true => have := anyB_iff.1 h; omega
                  have HF := Lib.hid (kept_off HQ.out (show Rc.any _ = false from hF))
                  clear hF
                  first
                    | (exfalso; omega)
                    | (have t1 : (x + a - mx - ma == 0) = false := by rw [beq_eq_false_iff_ne]; omega
                       have z1 : mb ≤ 0 ∧ 0 ≤ mb := by omega
                       have t2 : (mb == 0) = true := by rw [beq_iff_eq]; omega
                       clear z1
                       go_wp2
                       go_roundw
                       case rel => exact ⟨3, nk, by omega, rfl, rfl, by rw [HF.out]; exact HN.out, b_wr⟩
                       case measure => simp [intOf])
                · have hT : anyB (mx + ma) my (x + a - mx - ma) mb = true := anyB_iff.2 (by omega)
                  have t1 : (x + a - mx - ma == 0) = false := by rw [beq_eq_false_iff_ne]; omega
                  have t2 : (mb == 0) = false := by rw [beq_eq_false_iff_ne]; omega
                  have hG := kept_get HQ.out (show Rc.any _ = true from hT) (show 2 < 4 by omega)
                  rw [← HK.out, HN.out] at hG
                  exfalso
                  rw [hL0] at hG
                  simp at hG
              · have hq : ps[3]? = some ⟨x, my + mb, a, y + b - my - mb⟩ := by rw [← HP.out]; rfl
                have HQ := Lib.hid hq
                clear hq
                rcases (by omega : a ≤ 0 ∨ (0 < a ∧ (y + b - my - mb) ≤ 0) ∨ (0 < a ∧ 0 < (y + b - my - mb))) with h1 | ⟨h1, h2⟩ | ⟨h1, h2⟩
                · have hF : anyB x (my + mb) a (y + b - my - mb) = false := by
                    cases h : anyB x (my + mb) a (y + b - my - mb) with
                    | false => rfl
                    | true => have := anyB_iff.1 h; omega
                  have HF := Lib.hid (kept_off HQ.out (show Rc.any _ = false from hF))
                  clear hF
                  first
                    | (exfalso; omega)
                    | (have z1 : a ≤ 0 ∧ 0 ≤ a := by omega
                       have t1 : (a == 0) = true := by rw [beq_iff_eq]; omega
                       clear z1
                       go_wp2
                       go_roundw
                       case rel => exact ⟨4, nk, by omega, rfl, rfl, by rw [HF.out]; exact HN.out, b_wr⟩
                       case measure => simp [intOf])
                · have hF : anyB x (my + mb) a (y + b - my - mb) = false := by
                    cases h : anyB x (my + mb) a (y + b - my - mb) with
                    | false => rfl
                    | true => have := anyB_iff.1 h; omega
                  have HF := Lib.hid (kept_off HQ.out (show Rc.any _ = false from hF))
                  clear hF
                  first
                    | (exfalso; omega)
                    | (have t1 : (a == 0) = false := by rw [beq_eq_false_iff_ne]; omega
                       have z1 : (y + b - my - mb) ≤ 0 ∧ 0 ≤ (y + b - my - mb) := by omega
                       have t2 : (y + b - my - mb == 0) = true := by rw [beq_iff_eq]; omega
                       clear z1
                       go_wp2
                       go_roundw
                       case rel => exact ⟨4, nk, by omega, rfl, rfl, by rw [HF.out]; exact HN.out, b_wr⟩
                       case measure => simp [intOf])
                · have hT : anyB x (my + mb) a (y + b - my - mb) = true := anyB_iff.2 (by omega)
                  have t1 : (a == 0) = false := by rw [beq_eq_false_iff_ne]; omega
                  have t2 : (y + b - my - mb == 0) = false := by rw [beq_eq_false_iff_ne]; omega
                  have hG := kept_get HQ.out (show Rc.any _ = true from hT) (show 3 < 4 by omega)
                  rw [← HK.out, HN.out] at hG
                  exfalso
                  rw [hL0] at hG
                  simp at hG
            · obtain rfl : k = 4 := by omega
              have hn := HN.out
              rw [← HK.out] at hn
              rw [hL0] at hn
              have hn : 0 = nk := hn
              subst hn
              go_wp2_with (go_at_call 14; refine (lives02 _).mono ?_; rintro e w9 ⟨rfl, b_w9⟩)
              go_ret
              exact ⟨rfl, a_wr.trans b_w9⟩
        · have hne : g ≠ b6 := fun h => d0_1 (by rw [h]; rfl)
          go_wp2_with fail
          first | refine settle_wp (fun wS => AnyLater w1 wS ∧ wS.heap[b6]? = some (.cells #[.int .i64 mx, .int .i64 my, .int .i64 ma, .int .i64 mb] 23) ∧ wS.heap[g]? = some (.cells cur 23 (0, 0))) ?_ ?_ | refine settle_calls (fun wS => AnyLater w1 wS ∧ wS.heap[b6]? = some (.cells #[.int .i64 mx, .int .i64 my, .int .i64 ma, .int .i64 mb] 23) ∧ wS.heap[g]? = some (.cells cur 23 (0, 0))) ?_ ?_
          · refine ⟨?_, ?_, ?_⟩
            · repeat' (first | with_reducible assumption | with_reducible exact AnyLater.refl _ | with_reducible apply AnyLater.setCell | with_reducible apply AnyLater.later | with_reducible apply AnyLater.drewN | with_reducible apply AnyLater.drew | with_reducible apply AnyLater.alloc | ((try simp only [World.size_alloc, World.size_setCell, World.size_drew]); (try dsimp only); omega))
            · ((repeat (first | with_reducible assumption | ((with_reducible apply heap_new); (try simp only [World.size_alloc, World.size_setCell, World.size_drew, World.heap_drewN]); done) | ((with_reducible apply heap_new); (try simp only [World.size_alloc, World.size_setCell, World.size_drew, World.heap_drewN]); omega) | (with_reducible refine heap_old (by (try simp only [World.size_alloc, World.size_setCell, World.size_drew, World.heap_drewN]); omega) ?_) | (with_reducible refine heap_drew ?_) | (with_reducible refine heap_far (by omega) ?_) | (with_reducible apply heap_at))); all_goals rfl)
            · ((repeat (first | with_reducible assumption | ((with_reducible apply heap_new); (try simp only [World.size_alloc, World.size_setCell, World.size_drew, World.heap_drewN]); done) | ((with_reducible apply heap_new); (try simp only [World.size_alloc, World.size_setCell, World.size_drew, World.heap_drewN]); omega) | (with_reducible refine heap_old (by (try simp only [World.size_alloc, World.size_setCell, World.size_drew, World.heap_drewN]); omega) ?_) | (with_reducible refine heap_drew ?_) | (with_reducible refine heap_far (by omega) ?_) | (with_reducible apply heap_at))); all_goals rfl)
          rintro w3 ⟨b_w3, s2_w3, s3_w3⟩
          have a_w3 := a_w1.trans b_w3
          have s0_w3 := any_own b_w3 s0_w1
          have s1_w3 := any_own b_w3 s1_w1
          have r0_w3 := own_row s0_w3
          have f0_w3 := own_free s0_w3
          have l0_w3 := own_lt s0_w3
          have r1_w3 := own_row s1_w3
          have f1_w3 := own_free s1_w3
          have l1_w3 := own_lt s1_w3
          (try clear r0_w1); (try clear f0_w1)
          (try clear r1_w1); (try clear f1_w1)
          have r2_w3 := own_row s2_w3
          have f2_w3 := own_free s2_w3
          have l2_w3 := own_lt s2_w3
          have r3_w3 := own_row s3_w3
          have f3_w3 := own_free s3_w3
          have l3_w3 := own_lt s3_w3
          have z_w3 := b_w3.below.size
          refine (any_any _ _ _ _ _ _ g1 (by omega) (by omega) (by omega) (by omega)).mono ?_
          rintro e w4 ⟨rfl, b_w4⟩
          have z_w4 := b_w4.below.size
          have a_w4 := a_w3.trans b_w4
          have s0_w4 := any_own b_w4 s0_w3
          have s1_w4 := any_own b_w4 s1_w3
          have s2_w4 := any_own b_w4 s2_w3
          have s3_w4 := any_own b_w4 s3_w3
          have r0_w4 := own_row s0_w4
          have f0_w4 := own_free s0_w4
          have l0_w4 := own_lt s0_w4
          have r1_w4 := own_row s1_w4
          have f1_w4 := own_free s1_w4
          have l1_w4 := own_lt s1_w4
          have r2_w4 := own_row s2_w4
          have f2_w4 := own_free s2_w4
          have l2_w4 := own_lt s2_w4
          have r3_w4 := own_row s3_w4
          have f3_w4 := own_free s3_w4
          have l3_w4 := own_lt s3_w4
          (try clear r0_w3); (try clear f0_w3)
          (try clear r1_w3); (try clear f1_w3)
          (try clear r2_w3); (try clear f2_w3)
          (try clear r3_w3); (try clear f3_w3)
          go_wp2_with fail
          refine (any_any _ _ _ _ _ _ g2 (by omega) (by omega) (by omega) (by omega)).mono ?_
          rintro e w5 ⟨rfl, b_w5⟩
          have z_w5 := b_w5.below.size
          have a_w5 := a_w4.trans b_w5
          have s0_w5 := any_own b_w5 s0_w4
          have s1_w5 := any_own b_w5 s1_w4
          have s2_w5 := any_own b_w5 s2_w4
          have s3_w5 := any_own b_w5 s3_w4
          have r0_w5 := own_row s0_w5
          have f0_w5 := own_free s0_w5
          have l0_w5 := own_lt s0_w5
          have r1_w5 := own_row s1_w5
          have f1_w5 := own_free s1_w5
          have l1_w5 := own_lt s1_w5
          have r2_w5 := own_row s2_w5
          have f2_w5 := own_free s2_w5
          have l2_w5 := own_lt s2_w5
          have r3_w5 := own_row s3_w5
          have f3_w5 := own_free s3_w5
          have l3_w5 := own_lt s3_w5
          (try clear r0_w4); (try clear f0_w4)
          (try clear r1_w4); (try clear f1_w4)
          (try clear r2_w4); (try clear f2_w4)
          (try clear r3_w4); (try clear f3_w4)
          go_wp2_with fail
          first | refine settle_wp (fun wS => AnyLater w5 wS ∧ wS.heap[w5.heap.size]? = some (.cells #[.int .i64 x, .int .i64 y, .int .i64 a, .int .i64 (my - y), .int .i64 x, .int .i64 my, .int .i64 (mx - x), .int .i64 mb, .int .i64 (mx + ma), .int .i64 my, .int .i64 (x + a - mx - ma), .int .i64 mb, .int .i64 x, .int .i64 (my + mb), .int .i64 a, .int .i64 (y + b - my - mb)] 23)) ?_ ?_ | refine settle_calls (fun wS => AnyLater w5 wS ∧ wS.heap[w5.heap.size]? = some (.cells #[.int .i64 x, .int .i64 y, .int .i64 a, .int .i64 (my - y), .int .i64 x, .int .i64 my, .int .i64 (mx - x), .int .i64 mb, .int .i64 (mx + ma), .int .i64 my, .int .i64 (x + a - mx - ma), .int .i64 mb, .int .i64 x, .int .i64 (my + mb), .int .i64 a, .int .i64 (y + b - my - mb)] 23)) ?_ ?_
          · refine ⟨?_, ?_⟩
            · repeat' (first | with_reducible assumption | with_reducible exact AnyLater.refl _ | with_reducible apply AnyLater.setCell | with_reducible apply AnyLater.later | with_reducible apply AnyLater.drewN | with_reducible apply AnyLater.drew | with_reducible apply AnyLater.alloc | ((try simp only [World.size_alloc, World.size_setCell, World.size_drew]); (try dsimp only); omega))
            · ((repeat (first | with_reducible assumption | ((with_reducible apply heap_new); (try simp only [World.size_alloc, World.size_setCell, World.size_drew, World.heap_drewN]); done) | ((with_reducible apply heap_new); (try simp only [World.size_alloc, World.size_setCell, World.size_drew, World.heap_drewN]); omega) | (with_reducible refine heap_old (by (try simp only [World.size_alloc, World.size_setCell, World.size_drew, World.heap_drewN]); omega) ?_) | (with_reducible refine heap_drew ?_) | (with_reducible refine heap_far (by omega) ?_) | (with_reducible apply heap_at))); all_goals rfl)
          rintro w7 ⟨b_w7, s4_w7⟩
          have a_w7 := a_w5.trans b_w7
          have s0_w7 := any_own b_w7 s0_w5
          have s1_w7 := any_own b_w7 s1_w5
          have s2_w7 := any_own b_w7 s2_w5
          have s3_w7 := any_own b_w7 s3_w5
          have r0_w7 := own_row s0_w7
          have f0_w7 := own_free s0_w7
          have l0_w7 := own_lt s0_w7
          have r1_w7 := own_row s1_w7
          have f1_w7 := own_free s1_w7
          have l1_w7 := own_lt s1_w7
          have r2_w7 := own_row s2_w7
          have f2_w7 := own_free s2_w7
          have l2_w7 := own_lt s2_w7
          have r3_w7 := own_row s3_w7
          have f3_w7 := own_free s3_w7
          have l3_w7 := own_lt s3_w7
          (try clear r0_w5); (try clear f0_w5)
          (try clear r1_w5); (try clear f1_w5)
          (try clear r2_w5); (try clear f2_w5)
          (try clear r3_w5); (try clear f3_w5)
          have r4_w7 := own_row s4_w7
          have f4_w7 := own_free s4_w7
          have l4_w7 := own_lt s4_w7
          have z_w7 := b_w7.below.size
          go_loopw [8, 9] (fun n i wr => ∃ k nk : Nat, k ≤ 4 ∧ i = .int .i64 k ∧ n = .int .i64 nk ∧ (kept ps k).length = nk ∧ AnyLater w7 wr) (fun _ i _ => 4 - (intOf i).toNat)
          case atStart => exact ⟨0, 0, by omega, rfl, rfl, rfl, AnyLater.refl _⟩
          case round =>
            obtain ⟨k, nk, hk, rfl, rfl, hn, b_wr⟩ := hrel
            have HN := Lib.hid hn
            clear hn
            have a_wr := a_w7.trans b_wr
            have s0_wr := any_own b_wr s0_w7
            have r0_wr := own_row s0_wr
            (try clear r0_w7); (try clear f0_w7)
            have s1_wr := any_own b_wr s1_w7
            have r1_wr := own_row s1_wr
            (try clear r1_w7); (try clear f1_w7)
            have s2_wr := any_own b_wr s2_w7
            have r2_wr := own_row s2_wr
            (try clear r2_w7); (try clear f2_w7)
            have s3_wr := any_own b_wr s3_w7
            have r3_wr := own_row s3_wr
            (try clear r3_w7); (try clear f3_w7)
            have s4_wr := any_own b_wr s4_w7
            have r4_wr := own_row s4_wr
            (try clear r4_w7); (try clear f4_w7)
            by_cases hlt : k < 4
            · rcases (by omega : k = 0 ∨ k = 1 ∨ k = 2 ∨ k = 3) with rfl | rfl | rfl | rfl
              · have hq : ps[0]? = some ⟨x, y, a, my - y⟩ := by rw [← HP.out]; rfl
                have HQ := Lib.hid hq
                clear hq
                rcases (by omega : a ≤ 0 ∨ (0 < a ∧ (my - y) ≤ 0) ∨ (0 < a ∧ 0 < (my - y))) with h1 | ⟨h1, h2⟩ | ⟨h1, h2⟩
                · have hF : anyB x y a (my - y) = false := by
                    cases h : anyB x y a (my - y) with
                    | false => rfl
                    | true => have := anyB_iff.1 h; omega
                  have HF := Lib.hid (kept_off HQ.out (show Rc.any _ = false from hF))
                  clear hF
                  first
                    | (exfalso; omega)
                    | (have z1 : a ≤ 0 ∧ 0 ≤ a := by omega
                       have t1 : (a == 0) = true := by rw [beq_iff_eq]; omega
                       clear z1
                       go_wp2
                       go_roundw
                       case rel => exact ⟨1, nk, by omega, rfl, rfl, by rw [HF.out]; exact HN.out, b_wr⟩
                       case measure => simp [intOf])
                · have hF : anyB x y a (my - y) = false := by
                    cases h : anyB x y a (my - y) with
                    | false => rfl
                    | true => have := anyB_iff.1 h; omega
                  have HF := Lib.hid (kept_off HQ.out (show Rc.any _ = false from hF))
                  clear hF
                  first
                    | (exfalso; omega)
                    | (have t1 : (a == 0) = false := by rw [beq_eq_false_iff_ne]; omega
                       have z1 : (my - y) ≤ 0 ∧ 0 ≤ (my - y) := by omega
                       have t2 : (my - y == 0) = true := by rw [beq_iff_eq]; omega
                       clear z1
                       go_wp2
                       go_roundw
                       case rel => exact ⟨1, nk, by omega, rfl, rfl, by rw [HF.out]; exact HN.out, b_wr⟩
                       case measure => simp [intOf])
                · have hT : anyB x y a (my - y) = true := anyB_iff.2 (by omega)
                  have t1 : (a == 0) = false := by rw [beq_eq_false_iff_ne]; omega
                  have t2 : (my - y == 0) = false := by rw [beq_eq_false_iff_ne]; omega
                  have hG := kept_get HQ.out (show Rc.any _ = true from hT) (show 0 < 4 by omega)
                  rw [← HK.out, HN.out] at hG
                  have HT := Lib.hid (kept_on HQ.out (show Rc.any _ = true from hT))
                  have q0 := cur_get hc4 hG (j := 0) (by omega)
                  have q1 := cur_get hc4 hG (j := 1) (by omega)
                  have q2 := cur_get hc4 hG (j := 2) (by omega)
                  have q3 := cur_get hc4 hG (j := 3) (by omega)
                  simp only [Rc.cells, Nat.add_zero, List.getElem?_cons_zero, List.getElem?_cons_succ] at q0 q1 q2 q3
                  have hnl : nk < L.length := (List.getElem?_eq_some_iff.1 hG).1
                  have hnl2 : (nk : Int) < (L.length : Int) := by omega
                  have t3 : decide (L.length ≤ nk) = false := by simp; omega
                  have t4 : decide ((L.length : Int) ≤ (nk : Int)) = false := by simp; omega
                  have hnk := kept_le ps 0
                  rw [HN.out] at hnk
                  clear hG hT
                  go_wp2_with fail
                  apply wp_region_mem (15) [] (by kernel_rfl) (by kernel_rfl) (by simp)
                  case hstab =>
                    intro e he v x y hxy hv
                    simp only [List.mem_cons, List.not_mem_nil, or_false] at he
                  case hlex =>
                    intro U
                    have q0 := fun (v : Later (later U)) => own_row (any_own ⟨v, rfl⟩ (any_own ⟨U, rfl⟩ s0_wr))
                    have q1 := fun (v : Later (later U)) => own_row (any_own ⟨v, rfl⟩ (any_own ⟨U, rfl⟩ s1_wr))
                    have q2 := fun (v : Later (later U)) => own_row (any_own ⟨v, rfl⟩ (any_own ⟨U, rfl⟩ s2_wr))
                    have q3 := fun (v : Later (later U)) => own_row (any_own ⟨v, rfl⟩ (any_own ⟨U, rfl⟩ s3_wr))
                    have q4 := fun (v : Later (later U)) => own_row (any_own ⟨v, rfl⟩ (any_own ⟨U, rfl⟩ s4_wr))
                    simp only [absFrom, absOp, idx, List.map_cons, List.map_nil, List.contains_cons, List.contains_nil, Nat.reduceBEq, Bool.or_false, Bool.false_or, Bool.true_or, Bool.or_true, Bool.false_eq_true, Nat.reduceLeDiff, Nat.reduceAdd, if_false, if_true]
                    repeat (go_big_quiet_step (fail))
                    exact wpQuiet_nil rfl
                  case hown =>
                    intro e he o ho
                    simp only [List.mem_cons, List.not_mem_nil, or_false] at he
                  case htail =>
                    intro g u hst hne
                    have b_w8 : AnyLater wr (later u) := ⟨u, rfl⟩
                    generalize later u = w8 at *
                    clear u
                    clear hst hne
                    simp only [fillAll, Act.put, List.setIfInBounds_toArray, List.set_cons_zero, List.set_cons_succ, List.drop_succ_cons, List.drop_zero]
                    have z_w8 := b_w8.below.size
                    have a_w8 := a_wr.trans b_w8
                    have s0_w8 := any_own b_w8 s0_wr
                    have s1_w8 := any_own b_w8 s1_wr
                    have s2_w8 := any_own b_w8 s2_wr
                    have s3_w8 := any_own b_w8 s3_wr
                    have s4_w8 := any_own b_w8 s4_wr
                    have r0_w8 := own_row s0_w8
                    have f0_w8 := own_free s0_w8
                    have l0_w8 := own_lt s0_w8
                    have r1_w8 := own_row s1_w8
                    have f1_w8 := own_free s1_w8
                    have l1_w8 := own_lt s1_w8
                    have r2_w8 := own_row s2_w8
                    have f2_w8 := own_free s2_w8
                    have l2_w8 := own_lt s2_w8
                    have r3_w8 := own_row s3_w8
                    have f3_w8 := own_free s3_w8
                    have l3_w8 := own_lt s3_w8
                    have r4_w8 := own_row s4_w8
                    have f4_w8 := own_free s4_w8
                    have l4_w8 := own_lt s4_w8
                    (try clear r0_wr); (try clear f0_wr)
                    (try clear r1_wr); (try clear f1_wr)
                    (try clear r2_wr); (try clear f2_wr)
                    (try clear r3_wr); (try clear f3_wr)
                    (try clear r4_wr); (try clear f4_wr)
                    go_wp2
                    go_roundw
                    case rel => exact ⟨1, nk + 1, by omega, rfl, by go_num, by rw [HT.out, List.length_append, HN.out]; rfl, b_wr.trans b_w8⟩
                    case measure => simp [intOf]
              · have hq : ps[1]? = some ⟨x, my, mx - x, mb⟩ := by rw [← HP.out]; rfl
                have HQ := Lib.hid hq
                clear hq
                rcases (by omega : (mx - x) ≤ 0 ∨ (0 < (mx - x) ∧ mb ≤ 0) ∨ (0 < (mx - x) ∧ 0 < mb)) with h1 | ⟨h1, h2⟩ | ⟨h1, h2⟩
                · have hF : anyB x my (mx - x) mb = false := by
                    cases h : anyB x my (mx - x) mb with
                    | false => rfl
                    | true => have := anyB_iff.1 h; omega
                  have HF := Lib.hid (kept_off HQ.out (show Rc.any _ = false from hF))
                  clear hF
                  first
                    | (exfalso; omega)
                    | (have z1 : (mx - x) ≤ 0 ∧ 0 ≤ (mx - x) := by omega
                       have t1 : (mx - x == 0) = true := by rw [beq_iff_eq]; omega
                       clear z1
                       go_wp2
                       go_roundw
                       case rel => exact ⟨2, nk, by omega, rfl, rfl, by rw [HF.out]; exact HN.out, b_wr⟩
                       case measure => simp [intOf])
                · have hF : anyB x my (mx - x) mb = false := by
                    cases h : anyB x my (mx - x) mb with
                    | false => rfl
                    | true => have := anyB_iff.1 h; omega
                  have HF := Lib.hid (kept_off HQ.out (show Rc.any _ = false from hF))
                  clear hF
                  first
                    | (exfalso; omega)
                    | (have t1 : (mx - x == 0) = false := by rw [beq_eq_false_iff_ne]; omega
                       have z1 : mb ≤ 0 ∧ 0 ≤ mb := by omega
                       have t2 : (mb == 0) = true := by rw [beq_iff_eq]; omega
                       clear z1
                       go_wp2
                       go_roundw
                       case rel => exact ⟨2, nk, by omega, rfl, rfl, by rw [HF.out]; exact HN.out, b_wr⟩
                       case measure => simp [intOf])
                · have hT : anyB x my (mx - x) mb = true := anyB_iff.2 (by omega)
                  have t1 : (mx - x == 0) = false := by rw [beq_eq_false_iff_ne]; omega
                  have t2 : (mb == 0) = false := by rw [beq_eq_false_iff_ne]; omega
                  have hG := kept_get HQ.out (show Rc.any _ = true from hT) (show 1 < 4 by omega)
                  rw [← HK.out, HN.out] at hG
                  have HT := Lib.hid (kept_on HQ.out (show Rc.any _ = true from hT))
                  have q0 := cur_get hc4 hG (j := 0) (by omega)
                  have q1 := cur_get hc4 hG (j := 1) (by omega)
                  have q2 := cur_get hc4 hG (j := 2) (by omega)
                  have q3 := cur_get hc4 hG (j := 3) (by omega)
                  simp only [Rc.cells, Nat.add_zero, List.getElem?_cons_zero, List.getElem?_cons_succ] at q0 q1 q2 q3
                  have hnl : nk < L.length := (List.getElem?_eq_some_iff.1 hG).1
                  have hnl2 : (nk : Int) < (L.length : Int) := by omega
                  have t3 : decide (L.length ≤ nk) = false := by simp; omega
                  have t4 : decide ((L.length : Int) ≤ (nk : Int)) = false := by simp; omega
                  have hnk := kept_le ps 1
                  rw [HN.out] at hnk
                  clear hG hT
                  go_wp2_with fail
                  apply wp_region_mem (15) [] (by kernel_rfl) (by kernel_rfl) (by simp)
                  case hstab =>
                    intro e he v x y hxy hv
                    simp only [List.mem_cons, List.not_mem_nil, or_false] at he
                  case hlex =>
                    intro U
                    have q0 := fun (v : Later (later U)) => own_row (any_own ⟨v, rfl⟩ (any_own ⟨U, rfl⟩ s0_wr))
                    have q1 := fun (v : Later (later U)) => own_row (any_own ⟨v, rfl⟩ (any_own ⟨U, rfl⟩ s1_wr))
                    have q2 := fun (v : Later (later U)) => own_row (any_own ⟨v, rfl⟩ (any_own ⟨U, rfl⟩ s2_wr))
                    have q3 := fun (v : Later (later U)) => own_row (any_own ⟨v, rfl⟩ (any_own ⟨U, rfl⟩ s3_wr))
                    have q4 := fun (v : Later (later U)) => own_row (any_own ⟨v, rfl⟩ (any_own ⟨U, rfl⟩ s4_wr))
                    simp only [absFrom, absOp, idx, List.map_cons, List.map_nil, List.contains_cons, List.contains_nil, Nat.reduceBEq, Bool.or_false, Bool.false_or, Bool.true_or, Bool.or_true, Bool.false_eq_true, Nat.reduceLeDiff, Nat.reduceAdd, if_false, if_true]
                    repeat (go_big_quiet_step (fail))
                    exact wpQuiet_nil rfl
                  case hown =>
                    intro e he o ho
                    simp only [List.mem_cons, List.not_mem_nil, or_false] at he
                  case htail =>
                    intro g u hst hne
                    have b_w8 : AnyLater wr (later u) := ⟨u, rfl⟩
                    generalize later u = w8 at *
                    clear u
                    clear hst hne
                    simp only [fillAll, Act.put, List.setIfInBounds_toArray, List.set_cons_zero, List.set_cons_succ, List.drop_succ_cons, List.drop_zero]
                    have z_w8 := b_w8.below.size
                    have a_w8 := a_wr.trans b_w8
                    have s0_w8 := any_own b_w8 s0_wr
                    have s1_w8 := any_own b_w8 s1_wr
                    have s2_w8 := any_own b_w8 s2_wr
                    have s3_w8 := any_own b_w8 s3_wr
                    have s4_w8 := any_own b_w8 s4_wr
                    have r0_w8 := own_row s0_w8
                    have f0_w8 := own_free s0_w8
                    have l0_w8 := own_lt s0_w8
                    have r1_w8 := own_row s1_w8
                    have f1_w8 := own_free s1_w8
                    have l1_w8 := own_lt s1_w8
                    have r2_w8 := own_row s2_w8
                    have f2_w8 := own_free s2_w8
                    have l2_w8 := own_lt s2_w8
                    have r3_w8 := own_row s3_w8
                    have f3_w8 := own_free s3_w8
                    have l3_w8 := own_lt s3_w8
                    have r4_w8 := own_row s4_w8
                    have f4_w8 := own_free s4_w8
                    have l4_w8 := own_lt s4_w8
                    (try clear r0_wr); (try clear f0_wr)
                    (try clear r1_wr); (try clear f1_wr)
                    (try clear r2_wr); (try clear f2_wr)
                    (try clear r3_wr); (try clear f3_wr)
                    (try clear r4_wr); (try clear f4_wr)
                    go_wp2
                    go_roundw
                    case rel => exact ⟨2, nk + 1, by omega, rfl, by go_num, by rw [HT.out, List.length_append, HN.out]; rfl, b_wr.trans b_w8⟩
                    case measure => simp [intOf]
              · have hq : ps[2]? = some ⟨mx + ma, my, x + a - mx - ma, mb⟩ := by rw [← HP.out]; rfl
                have HQ := Lib.hid hq
                clear hq
                rcases (by omega : (x + a - mx - ma) ≤ 0 ∨ (0 < (x + a - mx - ma) ∧ mb ≤ 0) ∨ (0 < (x + a - mx - ma) ∧ 0 < mb)) with h1 | ⟨h1, h2⟩ | ⟨h1, h2⟩
                · have hF : anyB (mx + ma) my (x + a - mx - ma) mb = false := by
                    cases h : anyB (mx + ma) my (x + a - mx - ma) mb with
                    | false => rfl
                    | true => have := anyB_iff.1 h; omega
                  have HF := Lib.hid (kept_off HQ.out (show Rc.any _ = false from hF))
                  clear hF
                  first
                    | (exfalso; omega)
                    | (have z1 : (x + a - mx - ma) ≤ 0 ∧ 0 ≤ (x + a - mx - ma) := by omega
                       have t1 : (x + a - mx - ma == 0) = true := by rw [beq_iff_eq]; omega
                       clear z1
                       go_wp2
                       go_roundw
                       case rel => exact ⟨3, nk, by omega, rfl, rfl, by rw [HF.out]; exact HN.out, b_wr⟩
                       case measure => simp [intOf])
                · have hF : anyB (mx + ma) my (x + a - mx - ma) mb = false := by
                    cases h : anyB (mx + ma) my (x + a - mx - ma) mb with
                    | false => rfl
                    | true => have := anyB_iff.1 h; omega
                  have HF := Lib.hid (kept_off HQ.out (show Rc.any _ = false from hF))
                  clear hF
                  first
                    | (exfalso; omega)
                    | (have t1 : (x + a - mx - ma == 0) = false := by rw [beq_eq_false_iff_ne]; omega
                       have z1 : mb ≤ 0 ∧ 0 ≤ mb := by omega
                       have t2 : (mb == 0) = true := by rw [beq_iff_eq]; omega
                       clear z1
                       go_wp2
                       go_roundw
                       case rel => exact ⟨3, nk, by omega, rfl, rfl, by rw [HF.out]; exact HN.out, b_wr⟩
                       case measure => simp [intOf])
                · have hT : anyB (mx + ma) my (x + a - mx - ma) mb = true := anyB_iff.2 (by omega)
                  have t1 : (x + a - mx - ma == 0) = false := by rw [beq_eq_false_iff_ne]; omega
                  have t2 : (mb == 0) = false := by rw [beq_eq_false_iff_ne]; omega
                  have hG := kept_get HQ.out (show Rc.any _ = true from hT) (show 2 < 4 by omega)
                  rw [← HK.out, HN.out] at hG
                  have HT := Lib.hid (kept_on HQ.out (show Rc.any _ = true from hT))
                  have q0 := cur_get hc4 hG (j := 0) (by omega)
                  have q1 := cur_get hc4 hG (j := 1) (by omega)
                  have q2 := cur_get hc4 hG (j := 2) (by omega)
                  have q3 := cur_get hc4 hG (j := 3) (by omega)
                  simp only [Rc.cells, Nat.add_zero, List.getElem?_cons_zero, List.getElem?_cons_succ] at q0 q1 q2 q3
                  have hnl : nk < L.length := (List.getElem?_eq_some_iff.1 hG).1
                  have hnl2 : (nk : Int) < (L.length : Int) := by omega
                  have t3 : decide (L.length ≤ nk) = false := by simp; omega
                  have t4 : decide ((L.length : Int) ≤ (nk : Int)) = false := by simp; omega
                  have hnk := kept_le ps 2
                  rw [HN.out] at hnk
                  clear hG hT
                  go_wp2_with fail
                  apply wp_region_mem (15) [] (by kernel_rfl) (by kernel_rfl) (by simp)
                  case hstab =>
                    intro e he v x y hxy hv
                    simp only [List.mem_cons, List.not_mem_nil, or_false] at he
                  case hlex =>
                    intro U
                    have q0 := fun (v : Later (later U)) => own_row (any_own ⟨v, rfl⟩ (any_own ⟨U, rfl⟩ s0_wr))
                    have q1 := fun (v : Later (later U)) => own_row (any_own ⟨v, rfl⟩ (any_own ⟨U, rfl⟩ s1_wr))
                    have q2 := fun (v : Later (later U)) => own_row (any_own ⟨v, rfl⟩ (any_own ⟨U, rfl⟩ s2_wr))
                    have q3 := fun (v : Later (later U)) => own_row (any_own ⟨v, rfl⟩ (any_own ⟨U, rfl⟩ s3_wr))
                    have q4 := fun (v : Later (later U)) => own_row (any_own ⟨v, rfl⟩ (any_own ⟨U, rfl⟩ s4_wr))
                    simp only [absFrom, absOp, idx, List.map_cons, List.map_nil, List.contains_cons, List.contains_nil, Nat.reduceBEq, Bool.or_false, Bool.false_or, Bool.true_or, Bool.or_true, Bool.false_eq_true, Nat.reduceLeDiff, Nat.reduceAdd, if_false, if_true]
                    repeat (go_big_quiet_step (fail))
                    exact wpQuiet_nil rfl
                  case hown =>
                    intro e he o ho
                    simp only [List.mem_cons, List.not_mem_nil, or_false] at he
                  case htail =>
                    intro g u hst hne
                    have b_w8 : AnyLater wr (later u) := ⟨u, rfl⟩
                    generalize later u = w8 at *
                    clear u
                    clear hst hne
                    simp only [fillAll, Act.put, List.setIfInBounds_toArray, List.set_cons_zero, List.set_cons_succ, List.drop_succ_cons, List.drop_zero]
                    have z_w8 := b_w8.below.size
                    have a_w8 := a_wr.trans b_w8
                    have s0_w8 := any_own b_w8 s0_wr
                    have s1_w8 := any_own b_w8 s1_wr
                    have s2_w8 := any_own b_w8 s2_wr
                    have s3_w8 := any_own b_w8 s3_wr
                    have s4_w8 := any_own b_w8 s4_wr
                    have r0_w8 := own_row s0_w8
                    have f0_w8 := own_free s0_w8
                    have l0_w8 := own_lt s0_w8
                    have r1_w8 := own_row s1_w8
                    have f1_w8 := own_free s1_w8
                    have l1_w8 := own_lt s1_w8
                    have r2_w8 := own_row s2_w8
                    have f2_w8 := own_free s2_w8
                    have l2_w8 := own_lt s2_w8
                    have r3_w8 := own_row s3_w8
                    have f3_w8 := own_free s3_w8
                    have l3_w8 := own_lt s3_w8
                    have r4_w8 := own_row s4_w8
                    have f4_w8 := own_free s4_w8
                    have l4_w8 := own_lt s4_w8
                    (try clear r0_wr); (try clear f0_wr)
                    (try clear r1_wr); (try clear f1_wr)
                    (try clear r2_wr); (try clear f2_wr)
                    (try clear r3_wr); (try clear f3_wr)
                    (try clear r4_wr); (try clear f4_wr)
                    go_wp2
                    go_roundw
                    case rel => exact ⟨3, nk + 1, by omega, rfl, by go_num, by rw [HT.out, List.length_append, HN.out]; rfl, b_wr.trans b_w8⟩
                    case measure => simp [intOf]
              · have hq : ps[3]? = some ⟨x, my + mb, a, y + b - my - mb⟩ := by rw [← HP.out]; rfl
                have HQ := Lib.hid hq
                clear hq
                rcases (by omega : a ≤ 0 ∨ (0 < a ∧ (y + b - my - mb) ≤ 0) ∨ (0 < a ∧ 0 < (y + b - my - mb))) with h1 | ⟨h1, h2⟩ | ⟨h1, h2⟩
                · have hF : anyB x (my + mb) a (y + b - my - mb) = false := by
                    cases h : anyB x (my + mb) a (y + b - my - mb) with
                    | false => rfl
                    | true => have := anyB_iff.1 h; omega
                  have HF := Lib.hid (kept_off HQ.out (show Rc.any _ = false from hF))
                  clear hF
                  first
                    | (exfalso; omega)
                    | (have z1 : a ≤ 0 ∧ 0 ≤ a := by omega
                       have t1 : (a == 0) = true := by rw [beq_iff_eq]; omega
                       clear z1
                       go_wp2
                       go_roundw
                       case rel => exact ⟨4, nk, by omega, rfl, rfl, by rw [HF.out]; exact HN.out, b_wr⟩
                       case measure => simp [intOf])
                · have hF : anyB x (my + mb) a (y + b - my - mb) = false := by
                    cases h : anyB x (my + mb) a (y + b - my - mb) with
                    | false => rfl
                    | true => have := anyB_iff.1 h; omega
                  have HF := Lib.hid (kept_off HQ.out (show Rc.any _ = false from hF))
                  clear hF
                  first
                    | (exfalso; omega)
                    | (have t1 : (a == 0) = false := by rw [beq_eq_false_iff_ne]; omega
                       have z1 : (y + b - my - mb) ≤ 0 ∧ 0 ≤ (y + b - my - mb) := by omega
                       have t2 : (y + b - my - mb == 0) = true := by rw [beq_iff_eq]; omega
                       clear z1
                       go_wp2
                       go_roundw
                       case rel => exact ⟨4, nk, by omega, rfl, rfl, by rw [HF.out]; exact HN.out, b_wr⟩
                       case measure => simp [intOf])
                · have hT : anyB x (my + mb) a (y + b - my - mb) = true := anyB_iff.2 (by omega)
                  have t1 : (a == 0) = false := by rw [beq_eq_false_iff_ne]; omega
                  have t2 : (y + b - my - mb == 0) = false := by rw [beq_eq_false_iff_ne]; omega
                  have hG := kept_get HQ.out (show Rc.any _ = true from hT) (show 3 < 4 by omega)
                  rw [← HK.out, HN.out] at hG
                  have HT := Lib.hid (kept_on HQ.out (show Rc.any _ = true from hT))
                  have q0 := cur_get hc4 hG (j := 0) (by omega)
                  have q1 := cur_get hc4 hG (j := 1) (by omega)
                  have q2 := cur_get hc4 hG (j := 2) (by omega)
                  have q3 := cur_get hc4 hG (j := 3) (by omega)
                  simp only [Rc.cells, Nat.add_zero, List.getElem?_cons_zero, List.getElem?_cons_succ] at q0 q1 q2 q3
                  have hnl : nk < L.length := (List.getElem?_eq_some_iff.1 hG).1
                  have hnl2 : (nk : Int) < (L.length : Int) := by omega
                  have t3 : decide (L.length ≤ nk) = false := by simp; omega
                  have t4 : decide ((L.length : Int) ≤ (nk : Int)) = false := by simp; omega
                  have hnk := kept_le ps 3
                  rw [HN.out] at hnk
                  clear hG hT
                  go_wp2_with fail
                  apply wp_region_mem (15) [] (by kernel_rfl) (by kernel_rfl) (by simp)
                  case hstab =>
                    intro e he v x y hxy hv
                    simp only [List.mem_cons, List.not_mem_nil, or_false] at he
                  case hlex =>
                    intro U
                    have q0 := fun (v : Later (later U)) => own_row (any_own ⟨v, rfl⟩ (any_own ⟨U, rfl⟩ s0_wr))
                    have q1 := fun (v : Later (later U)) => own_row (any_own ⟨v, rfl⟩ (any_own ⟨U, rfl⟩ s1_wr))
                    have q2 := fun (v : Later (later U)) => own_row (any_own ⟨v, rfl⟩ (any_own ⟨U, rfl⟩ s2_wr))
                    have q3 := fun (v : Later (later U)) => own_row (any_own ⟨v, rfl⟩ (any_own ⟨U, rfl⟩ s3_wr))
                    have q4 := fun (v : Later (later U)) => own_row (any_own ⟨v, rfl⟩ (any_own ⟨U, rfl⟩ s4_wr))
                    simp only [absFrom, absOp, idx, List.map_cons, List.map_nil, List.contains_cons, List.contains_nil, Nat.reduceBEq, Bool.or_false, Bool.false_or, Bool.true_or, Bool.or_true, Bool.false_eq_true, Nat.reduceLeDiff, Nat.reduceAdd, if_false, if_true]
                    repeat (go_big_quiet_step (fail))
                    exact wpQuiet_nil rfl
                  case hown =>
                    intro e he o ho
                    simp only [List.mem_cons, List.not_mem_nil, or_false] at he
                  case htail =>
                    intro g u hst hne
                    have b_w8 : AnyLater wr (later u) := ⟨u, rfl⟩
                    generalize later u = w8 at *
                    clear u
                    clear hst hne
                    simp only [fillAll, Act.put, List.setIfInBounds_toArray, List.set_cons_zero, List.set_cons_succ, List.drop_succ_cons, List.drop_zero]
                    have z_w8 := b_w8.below.size
                    have a_w8 := a_wr.trans b_w8
                    have s0_w8 := any_own b_w8 s0_wr
                    have s1_w8 := any_own b_w8 s1_wr
                    have s2_w8 := any_own b_w8 s2_wr
                    have s3_w8 := any_own b_w8 s3_wr
                    have s4_w8 := any_own b_w8 s4_wr
                    have r0_w8 := own_row s0_w8
                    have f0_w8 := own_free s0_w8
                    have l0_w8 := own_lt s0_w8
                    have r1_w8 := own_row s1_w8
                    have f1_w8 := own_free s1_w8
                    have l1_w8 := own_lt s1_w8
                    have r2_w8 := own_row s2_w8
                    have f2_w8 := own_free s2_w8
                    have l2_w8 := own_lt s2_w8
                    have r3_w8 := own_row s3_w8
                    have f3_w8 := own_free s3_w8
                    have l3_w8 := own_lt s3_w8
                    have r4_w8 := own_row s4_w8
                    have f4_w8 := own_free s4_w8
                    have l4_w8 := own_lt s4_w8
                    (try clear r0_wr); (try clear f0_wr)
                    (try clear r1_wr); (try clear f1_wr)
                    (try clear r2_wr); (try clear f2_wr)
                    (try clear r3_wr); (try clear f3_wr)
                    (try clear r4_wr); (try clear f4_wr)
                    go_wp2
                    go_roundw
                    case rel => exact ⟨4, nk + 1, by omega, rfl, by go_num, by rw [HT.out, List.length_append, HN.out]; rfl, b_wr.trans b_w8⟩
                    case measure => simp [intOf]
            · obtain rfl : k = 4 := by omega
              have hn := HN.out
              rw [← HK.out] at hn
              subst hn
              go_wp2_with (go_at_call 14; refine (lives02 _).mono ?_; rintro e w9 ⟨rfl, b_w9⟩)
              go_ret
              exact ⟨rfl, a_wr.trans b_w9⟩
end Go.Proofs.Ytddmhonhajfehaa
