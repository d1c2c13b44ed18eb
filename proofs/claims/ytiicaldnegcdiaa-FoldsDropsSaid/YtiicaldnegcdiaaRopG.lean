/- rope: the last piece taken off, two parts side by side, a part split: by contract. -/
import Derived.Test.YtiicaldnegcdiaaRopF
namespace Go.Proofs.Ytiicaldnegcdiaa
set_option linter.unusedSimpArgs false
set_option linter.unusedVariables false
set_option linter.unusedSectionVars false
open Go.RowKit

def isL (t : Tr × Pc) (v : Value) (w : World) : Prop := ∃ u bv fv, v = .tuple #[u, pcV bv fv t.2] ∧ IsT w t.1 u ∧ RIsP w bv fv t.2
set_option maxRecDepth 100000 in
set_option maxHeartbeats 1600000 in
theorem last_one (a : Tr) (p : Pc) (v : Value) (w : World) (h : IsT w (.node a p .nil) v) : Calls Try.prog 128 #[v] w (Ans (isL (a, p)) w) := by
  obtain ⟨k, lv, rv, bv, fv, rfl, hk, ha, hr, hp⟩ := h
  obtain rfl : rv = .pointer none := hr
  have HD : Hid (∀ w', AnyLater w w' → isL (a, p) (.tuple #[lv, pcV bv fv p]) w') := Lib.hid (fun w' b => ⟨_, _, _, rfl, ha.later b, hp.later b⟩)
  obtain ⟨q, rfl⟩ := ha.ptr
  obtain ⟨A, cap, rfl, -⟩ := hp.1.form
  obtain ⟨A2, cap2, rfl, -⟩ := hp.2.form
  unfold nodeC at hk
  unfold pcV at HD
  have l0 := own_lt hk
  have n0 : w.heap.size ≠ k := by omega
  have r0 := own_row hk
  clear ha hp
  generalize p.b.length = n at *
  generalize p.fs.length = m at *
  generalize p.base = b0 at *
  generalize (Tr.node a p .nil).len = y1 at *
  generalize (Tr.node a p .nil).nf = y2 at *
  generalize (Tr.node a p .nil).np = y3 at *
  generalize (Tr.node a p .nil).lev = y4 at *
  go_enter Try.func128, Try.ntmps128
  go_wp2_with fail
  first | refine settle_wp (fun wS => AnyLater w wS ∧ wS.heap[w.heap.size]? = some (.cells #[.slice none 0 0, .slice none 0 0, .int .i64 0] 107) ∧ wS.heap[k]? = some (.cells #[.pointer q, .pointer none, .slice A n cap, .slice A2 m cap2, .int .i64 b0, .int .i64 (y1 : Int), .int .i64 (y2 : Int), .int .i64 (y3 : Int), .int .i64 (y4 : Int)] 111 (0, 0))) ?_ ?_ | refine settle_calls (fun wS => AnyLater w wS ∧ wS.heap[w.heap.size]? = some (.cells #[.slice none 0 0, .slice none 0 0, .int .i64 0] 107) ∧ wS.heap[k]? = some (.cells #[.pointer q, .pointer none, .slice A n cap, .slice A2 m cap2, .int .i64 b0, .int .i64 (y1 : Int), .int .i64 (y2 : Int), .int .i64 (y3 : Int), .int .i64 (y4 : Int)] 111 (0, 0))) ?_ ?_
  · refine ⟨?_, ?_, ?_⟩
    · repeat' (first | with_reducible assumption | with_reducible exact AnyLater.refl _ | with_reducible apply AnyLater.setCell | with_reducible apply AnyLater.later | with_reducible apply AnyLater.drewN | with_reducible apply AnyLater.drew | with_reducible apply AnyLater.alloc | ((try simp only [World.size_alloc, World.size_setCell, World.size_drew]); (try dsimp only); omega))
    · ((repeat (first | with_reducible assumption | ((with_reducible apply heap_new); (try simp only [World.size_alloc, World.size_setCell, World.size_drew, World.heap_drewN]); done) | ((with_reducible apply heap_new); (try simp only [World.size_alloc, World.size_setCell, World.size_drew, World.heap_drewN]); omega) | (with_reducible refine heap_old (by (try simp only [World.size_alloc, World.size_setCell, World.size_drew, World.heap_drewN]); omega) ?_) | (with_reducible refine heap_drew ?_) | (with_reducible refine heap_far (by omega) ?_) | (with_reducible apply heap_at))); all_goals rfl)
    · ((repeat (first | with_reducible assumption | ((with_reducible apply heap_new); (try simp only [World.size_alloc, World.size_setCell, World.size_drew, World.heap_drewN]); done) | ((with_reducible apply heap_new); (try simp only [World.size_alloc, World.size_setCell, World.size_drew, World.heap_drewN]); omega) | (with_reducible refine heap_old (by (try simp only [World.size_alloc, World.size_setCell, World.size_drew, World.heap_drewN]); omega) ?_) | (with_reducible refine heap_drew ?_) | (with_reducible refine heap_far (by omega) ?_) | (with_reducible apply heap_at))); all_goals rfl)
  rintro w1 ⟨b_w1, s0_w1, s1_w1⟩
  have a_w1 := b_w1
  have r0_w1 := own_row s0_w1
  have f0_w1 := own_free s0_w1
  have l0_w1 := own_lt s0_w1
  have r1_w1 := own_row s1_w1
  have f1_w1 := own_free s1_w1
  have l1_w1 := own_lt s1_w1
  have z_w1 := b_w1.below.size
  clear r0 hk
  apply wp_region_mem (9) [] (by kernel_rfl) (by kernel_rfl) (by simp)
  case hstab =>
    intro e he v x y hxy hv
    simp only [List.mem_cons, List.not_mem_nil, or_false] at he
  case hlex =>
    intro U
    have q0 := fun (v : Later (later U)) => own_row (any_own ⟨v, rfl⟩ (any_own ⟨U, rfl⟩ s0_w1))
    have q1 := fun (v : Later (later U)) => own_row (any_own ⟨v, rfl⟩ (any_own ⟨U, rfl⟩ s1_w1))
    simp only [absFrom, absOp, idx, List.map_cons, List.map_nil, List.contains_cons, List.contains_nil, Nat.reduceBEq, Bool.or_false, Bool.false_or, Bool.true_or, Bool.or_true, Bool.false_eq_true, Nat.reduceLeDiff, Nat.reduceAdd, if_false, if_true]
    repeat (go_big_quiet_step (fail))
    exact wpQuiet_nil rfl
  case hown =>
    intro e he o ho
    simp only [List.mem_cons, List.not_mem_nil, or_false] at he
  case htail =>
    intro g u hst hne
    have b_w2 : AnyLater w1 (later u) := ⟨u, rfl⟩
    generalize later u = w2 at *
    clear u
    clear hst hne
    simp only [fillAll, Act.put, List.setIfInBounds_toArray, List.set_cons_zero, List.set_cons_succ, List.drop_succ_cons, List.drop_zero]
    have z_w2 := b_w2.below.size
    have a_w2 := a_w1.trans b_w2
    have s0_w2 := any_own b_w2 s0_w1
    have s1_w2 := any_own b_w2 s1_w1
    have r0_w2 := own_row s0_w2
    have f0_w2 := own_free s0_w2
    have l0_w2 := own_lt s0_w2
    have r1_w2 := own_row s1_w2
    have f1_w2 := own_free s1_w2
    have l1_w2 := own_lt s1_w2
    (try clear r0_w1); (try clear f0_w1)
    (try clear r1_w1); (try clear f1_w1)
    go_wp2_with fail
    have HA : AnyLater w (((w2.setCell ⟨w.heap.size, 0, none⟩ (.slice A n cap)).setCell ⟨w.heap.size, 1, none⟩ (.slice A2 m cap2)).setCell ⟨w.heap.size, 2, none⟩ (.int .i64 b0)) := by repeat' (first | with_reducible assumption | with_reducible exact AnyLater.refl _ | with_reducible apply AnyLater.setCell | with_reducible apply AnyLater.later | with_reducible apply AnyLater.drewN | with_reducible apply AnyLater.drew | with_reducible apply AnyLater.alloc | ((try simp only [World.size_alloc, World.size_setCell, World.size_drew]); (try dsimp only); omega))
    refine bodyPost_ret (v := .tuple #[.pointer q, .agg #[.slice A n cap, .slice A2 m cap2, .int .i64 b0]]) (by simp [results, Try.results128, go_sem, *]) rfl ?_
    exact ⟨_, rfl, HA, HD.out _ HA⟩
set_option maxRecDepth 100000 in
set_option maxHeartbeats 1600000 in
theorem last_more (a r : Tr) (p : Pc) (v : Value) (w : World) (t : Tr × Pc) (T : Tr) (hT : Tr.even a p t.1 = T) (hr0 : r ≠ .nil) (h : IsT w (.node a p r) v) (ih : ∀ (u : Value) (w' : World), IsT w' r u → Calls Try.prog 128 #[u] w' (Ans (isL t) w')) (hF : (Tr.node a p r).Fair) (ft : t.1.Fair) (hn : a.len + p.b.length + t.1.len ≤ 90000) : Calls Try.prog 128 #[v] w (Ans (isL (T, t.2)) w) := by
  obtain ⟨k, lv, rv, bv, fv, rfl, hk, ha, hr, hp⟩ := h
  obtain ⟨fa, fp, fr⟩ := hF
  have HI := Lib.hid (fun (w' : World) (b : AnyLater w w') => ih rv w' (hr.later b))
  have HE := Lib.hid (fun (w' : World) (u : Value) (b : AnyLater w w') (hu : IsT w' t.1 u) => even_any a t.1 p lv u bv fv w' T hT (ha.later b) hu (hp.later b) fa fp ft hn)
  have HD : Hid (∀ w' u v5 u5, isT T u w' → RIsP w' v5 u5 t.2 → isL (T, t.2) (.tuple #[u, pcV v5 u5 t.2]) w') := Lib.hid (fun w' u v5 u5 h1 h2 => ⟨_, _, _, rfl, h1, h2⟩)
  cases r with
  | nil => exact absurd rfl hr0
  | node rl rp rr =>
  obtain ⟨k2, q1, q2, q3, q4, rfl, -⟩ := hr
  obtain ⟨q, rfl⟩ := ha.ptr
  obtain ⟨A, cap, rfl, -⟩ := hp.1.form
  obtain ⟨A2, cap2, rfl, -⟩ := hp.2.form
  unfold nodeC at hk
  have l0 := own_lt hk
  have n0 : w.heap.size ≠ k := by omega
  have r0 := own_row hk
  unfold pcV at HD HE
  clear ha hp fa fp fr hn ih ft hT hr0
  generalize p.b.length = n at *
  generalize p.fs.length = m at *
  generalize p.base = b0 at *
  generalize (Tr.node a p (.node rl rp rr)).len = y1 at *
  generalize (Tr.node a p (.node rl rp rr)).nf = y2 at *
  generalize (Tr.node a p (.node rl rp rr)).np = y3 at *
  generalize (Tr.node a p (.node rl rp rr)).lev = y4 at *
  go_enter Try.func128, Try.ntmps128
  go_wp2_with fail
  first | refine settle_wp (fun wS => AnyLater w wS ∧ wS.heap[w.heap.size]? = some (.cells #[.slice none 0 0, .slice none 0 0, .int .i64 0] 107) ∧ wS.heap[k]? = some (.cells #[.pointer q, .pointer (some ⟨k2, 0, none⟩), .slice A n cap, .slice A2 m cap2, .int .i64 b0, .int .i64 (y1 : Int), .int .i64 (y2 : Int), .int .i64 (y3 : Int), .int .i64 (y4 : Int)] 111 (0, 0))) ?_ ?_ | refine settle_calls (fun wS => AnyLater w wS ∧ wS.heap[w.heap.size]? = some (.cells #[.slice none 0 0, .slice none 0 0, .int .i64 0] 107) ∧ wS.heap[k]? = some (.cells #[.pointer q, .pointer (some ⟨k2, 0, none⟩), .slice A n cap, .slice A2 m cap2, .int .i64 b0, .int .i64 (y1 : Int), .int .i64 (y2 : Int), .int .i64 (y3 : Int), .int .i64 (y4 : Int)] 111 (0, 0))) ?_ ?_
  · refine ⟨?_, ?_, ?_⟩
    · repeat' (first | with_reducible assumption | with_reducible exact AnyLater.refl _ | with_reducible apply AnyLater.setCell | with_reducible apply AnyLater.later | with_reducible apply AnyLater.drewN | with_reducible apply AnyLater.drew | with_reducible apply AnyLater.alloc | ((try simp only [World.size_alloc, World.size_setCell, World.size_drew]); (try dsimp only); omega))
    · ((repeat (first | with_reducible assumption | ((with_reducible apply heap_new); (try simp only [World.size_alloc, World.size_setCell, World.size_drew, World.heap_drewN]); done) | ((with_reducible apply heap_new); (try simp only [World.size_alloc, World.size_setCell, World.size_drew, World.heap_drewN]); omega) | (with_reducible refine heap_old (by (try simp only [World.size_alloc, World.size_setCell, World.size_drew, World.heap_drewN]); omega) ?_) | (with_reducible refine heap_drew ?_) | (with_reducible refine heap_far (by omega) ?_) | (with_reducible apply heap_at))); all_goals rfl)
    · ((repeat (first | with_reducible assumption | ((with_reducible apply heap_new); (try simp only [World.size_alloc, World.size_setCell, World.size_drew, World.heap_drewN]); done) | ((with_reducible apply heap_new); (try simp only [World.size_alloc, World.size_setCell, World.size_drew, World.heap_drewN]); omega) | (with_reducible refine heap_old (by (try simp only [World.size_alloc, World.size_setCell, World.size_drew, World.heap_drewN]); omega) ?_) | (with_reducible refine heap_drew ?_) | (with_reducible refine heap_far (by omega) ?_) | (with_reducible apply heap_at))); all_goals rfl)
  rintro w1 ⟨b_w1, s0_w1, s1_w1⟩
  have a_w1 := b_w1
  have r0_w1 := own_row s0_w1
  have f0_w1 := own_free s0_w1
  have l0_w1 := own_lt s0_w1
  have r1_w1 := own_row s1_w1
  have f1_w1 := own_free s1_w1
  have l1_w1 := own_lt s1_w1
  have z_w1 := b_w1.below.size
  clear r0 hk
  refine (HI.out _ a_w1).mono ?_
  rintro e w2 ⟨_, rfl, b_w2, u5, v6, v7, rfl, hu, hq⟩
  have HU := Lib.hid (And.intro hu hq)
  obtain ⟨q5, rfl⟩ := hu.ptr
  obtain ⟨A5, cap5, rfl, -⟩ := hq.1.form
  obtain ⟨A6, cap6, rfl, -⟩ := hq.2.form
  unfold pcV
  have z_w2 := b_w2.below.size
  have a_w2 := a_w1.trans b_w2
  have s0_w2 := any_own b_w2 s0_w1
  have s1_w2 := any_own b_w2 s1_w1
  have r0_w2 := own_row s0_w2
  have f0_w2 := own_free s0_w2
  have l0_w2 := own_lt s0_w2
  have r1_w2 := own_row s1_w2
  have f1_w2 := own_free s1_w2
  have l1_w2 := own_lt s1_w2
  (try clear r0_w1); (try clear f0_w1)
  (try clear r1_w1); (try clear f1_w1)
  clear hu hq
  generalize t.2.b.length = n5 at *
  generalize t.2.fs.length = n6 at *
  generalize hb5 : t.2.base = b5 at *
  clear hb5
  go_wp2_with fail
  first | refine settle_wp (fun wS => AnyLater w2 wS ∧ wS.heap[w2.heap.size]? = some (.cells #[.slice A5 n5 cap5, .slice A6 n6 cap6, .int .i64 b5] 107)) ?_ ?_ | refine settle_calls (fun wS => AnyLater w2 wS ∧ wS.heap[w2.heap.size]? = some (.cells #[.slice A5 n5 cap5, .slice A6 n6 cap6, .int .i64 b5] 107)) ?_ ?_
  · refine ⟨?_, ?_⟩
    · repeat' (first | with_reducible assumption | with_reducible exact AnyLater.refl _ | with_reducible apply AnyLater.setCell | with_reducible apply AnyLater.later | with_reducible apply AnyLater.drewN | with_reducible apply AnyLater.drew | with_reducible apply AnyLater.alloc | ((try simp only [World.size_alloc, World.size_setCell, World.size_drew]); (try dsimp only); omega))
    · ((repeat (first | with_reducible assumption | ((with_reducible apply heap_new); (try simp only [World.size_alloc, World.size_setCell, World.size_drew, World.heap_drewN]); done) | ((with_reducible apply heap_new); (try simp only [World.size_alloc, World.size_setCell, World.size_drew, World.heap_drewN]); omega) | (with_reducible refine heap_old (by (try simp only [World.size_alloc, World.size_setCell, World.size_drew, World.heap_drewN]); omega) ?_) | (with_reducible refine heap_drew ?_) | (with_reducible refine heap_far (by omega) ?_) | (with_reducible apply heap_at))); all_goals rfl)
  rintro w3 ⟨b_w3, s2_w3⟩
  have a_w3 := a_w2.trans b_w3
  have s0_w3 := any_own b_w3 s0_w2
  have s1_w3 := any_own b_w3 s1_w2
  have r0_w3 := own_row s0_w3
  have f0_w3 := own_free s0_w3
  have l0_w3 := own_lt s0_w3
  have r1_w3 := own_row s1_w3
  have f1_w3 := own_free s1_w3
  have l1_w3 := own_lt s1_w3
  (try clear r0_w2); (try clear f0_w2)
  (try clear r1_w2); (try clear f1_w2)
  have r2_w3 := own_row s2_w3
  have f2_w3 := own_free s2_w3
  have l2_w3 := own_lt s2_w3
  have z_w3 := b_w3.below.size
  apply Wild.wp_region_free (12) [⟨9, 36, undef, true, isT T⟩, ⟨11, 2, undef, true, isT T⟩] [⟨9, 36, isT T⟩, ⟨11, 2, isT T⟩] rfl (by kernel_rfl) (by kernel_rfl) (by kernel_rfl) (by simp) (by kernel_rfl)
  case hstab =>
    intro c hc
    simp only [List.mem_cons, List.not_mem_nil, or_false] at hc
    rcases hc with rfl | rfl
    · intro v x y hxy hv; exact isT_stays hxy hv
    · intro v x y hxy hv; exact isT_stays hxy hv
  case hfix =>
    intro c hc
    simp only [List.mem_cons, List.not_mem_nil, or_false] at hc
    rcases hc with rfl | rfl
    · exact .inl rfl
    · exact .inl rfl
  case hlex =>
    intro U hU
    have q0 := own_row (any_own hU s0_w3)
    have q1 := own_row (any_own hU s1_w3)
    have q2 := own_row (any_own hU s2_w3)
    simp only [List.map_cons, List.map_nil, CA.act, actFrom, actOp, List.lookup, Nat.reduceBEq, Nat.reduceLeDiff, Nat.reduceAdd, if_false, if_true]
    repeat (go_big_quiet_step (fail))
    exact wpQuiet_nil rfl
  case hstep =>
    intro j hj o ho
    have hj2 : j = 0 ∨ j = 1 := by simp at hj; omega
    rcases hj2 with rfl | rfl
    · cases ho
      refine ⟨rfl, fun g x hx hp => ?_⟩
      clear hp
      simp only [fillAll, Act.put, List.setIfInBounds_toArray, List.set_cons_zero, List.set_cons_succ]
      refine chain_go ?_ (Wild.free_tells (HE.out _ _ (a_w3.trans hx) (HU.out.1.later (b_w3.trans hx))))
      simp [go_sem, execOp]
    · cases ho
      refine ⟨rfl, fun g x hx hp => ?_⟩
      have p36 : (isT T) (g 9) x := hp _ (List.mem_of_getElem? (i := 0) rfl) (List.contains_iff_mem.1 (by kernel_rfl))
      clear hp
      simp only [fillAll, Act.put, List.setIfInBounds_toArray, List.set_cons_zero, List.set_cons_succ]
      refine Wild.free_is (v := g 9) ?_ p36; simp [go_sem, execOp]
  case htail =>
    intro g u hst hne
    have b_w4 : AnyLater w3 (later u) := ⟨u, rfl⟩
    generalize later u = w4 at *
    clear u hne
    obtain ⟨p36_w4, -⟩ := hst _ (List.mem_of_getElem? (i := 0) rfl)
    (try dsimp only at p36_w4)
    obtain ⟨p2_w4, -⟩ := hst _ (List.mem_of_getElem? (i := 1) rfl)
    (try dsimp only at p2_w4)
    clear hst
    simp only [fillAll, Act.put, List.setIfInBounds_toArray, List.set_cons_zero, List.set_cons_succ, List.drop_succ_cons, List.drop_zero, List.drop_nil]
    generalize g 9 = v36 at *
    generalize g 11 = v2 at *
    have z_w4 := b_w4.below.size
    have a_w4 := a_w3.trans b_w4
    have s0_w4 := any_own b_w4 s0_w3
    have s1_w4 := any_own b_w4 s1_w3
    have s2_w4 := any_own b_w4 s2_w3
    have r0_w4 := own_row s0_w4
    have f0_w4 := own_free s0_w4
    have l0_w4 := own_lt s0_w4
    have r1_w4 := own_row s1_w4
    have f1_w4 := own_free s1_w4
    have l1_w4 := own_lt s1_w4
    have r2_w4 := own_row s2_w4
    have f2_w4 := own_free s2_w4
    have l2_w4 := own_lt s2_w4
    (try clear r0_w3); (try clear f0_w3)
    (try clear r1_w3); (try clear f1_w3)
    (try clear r2_w3); (try clear f2_w3)
    go_wp2_with fail
    have HA : AnyLater w (((w4.setCell ⟨w.heap.size, 0, none⟩ (.slice A5 n5 cap5)).setCell ⟨w.heap.size, 1, none⟩ (.slice A6 n6 cap6)).setCell ⟨w.heap.size, 2, none⟩ (.int .i64 b5)) := by repeat' (first | with_reducible assumption | with_reducible exact AnyLater.refl _ | with_reducible apply AnyLater.setCell | with_reducible apply AnyLater.later | with_reducible apply AnyLater.drewN | with_reducible apply AnyLater.drew | with_reducible apply AnyLater.alloc | ((try simp only [World.size_alloc, World.size_setCell, World.size_drew]); (try dsimp only); omega))
    refine bodyPost_ret (v := .tuple #[v2, .agg #[.slice A5 n5 cap5, .slice A6 n6 cap6, .int .i64 b5]]) (by simp [results, Try.results128, go_sem, *]) rfl ?_
    refine ⟨_, rfl, HA, ?_⟩
    have h1 := IsT.far3 (i := 0) (j := 1) (k := 2) (x := .slice A5 n5 cap5) (y := .slice A6 n6 cap6) (z := .int .i64 b5) s0_w4 (by decide) (by decide) (by decide) p2_w4
    have h2 := RIsP.far3 (i := 0) (j := 1) (k := 2) (x := .slice A5 n5 cap5) (y := .slice A6 n6 cap6) (z := .int .i64 b5) s0_w4 (by decide) (by decide) (HU.out.2.later (b_w3.trans b_w4))
    have h3 := HD.out _ _ _ _ h1 h2
    exact h3
theorem last_any : ∀ (t : Tr) (v : Value) (w : World), t ≠ .nil → IsT w t v → t.Fair → t.len ≤ 90000 → Calls Try.prog 128 #[v] w (Ans (isL (Tr.last t)) w)
  | .nil, _, _, h, _, _, _ => absurd rfl h
  | .node a p .nil, v, w, _, h, _, _ => last_one a p v w h
  | .node a p (.node b q c), v, w, _, h, hF, hn => by
    have hl := Tr.len_last (t := .node b q c) (by simp)
    have hn2 : a.len + p.b.length + (Tr.node b q c).len ≤ 90000 := hn
    exact last_more a (.node b q c) p v w (Tr.last (.node b q c)) _ rfl (by simp) h (fun u w' hu => last_any (.node b q c) u w' (by simp) hu hF.2.2 (by omega)) hF (Tr.fair_last (by simp) hF.2.2).1 (by omega)
end Go.Proofs.Ytiicaldnegcdiaa
