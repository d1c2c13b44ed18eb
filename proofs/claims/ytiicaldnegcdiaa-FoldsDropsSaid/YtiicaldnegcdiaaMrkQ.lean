/- mark, the program: Span and All by contract. -/
import Derived.Test.YtiicaldnegcdiaaMrkP
import Derived.Test.YtiicaldnegcdiaaPairs
import Derived.Test.YtiicaldnegcdiaaFree
import Derived.Deep.LoopGhost
import Derived.LoopN
import Derived.Lib.AppendZeros
namespace Go.Proofs.Ytiicaldnegcdiaa
set_option linter.unusedSimpArgs false
set_option linter.unusedVariables false
set_option linter.unusedSectionVars false
open Go.RowKit

/-- what is left of a span behind an edit -/
def spanZ (a o i : Int) (s : Int × Int) : Option (Int × Int) := if rightZ s.1 a o i < leftZ s.2 a o i then some (rightZ s.1 a o i, leftZ s.2 a o i) else none
set_option maxRecDepth 100000 in
theorem mspan_yes (f t a o i x y : Int) (w : World) (hx : rightZ f a o i = x) (hy : leftZ t a o i = y) (h : x < y) : Calls Try.prog 49 #[.agg #[.int .i64 f, .int .i64 t], .agg #[.int .i64 a, .int .i64 o, .int .i64 i]] w fun e w' => e = .returned (.tuple #[.agg #[.int .i64 x, .int .i64 y], .bool true]) ∧ AnyLater w w' := by
  have HX := Lib.hid (fun w => mright_any f a o i w x hx)
  have HY := Lib.hid (fun w => mleft_any t a o i w y hy)
  have d : decide (y ≤ x) = false := decide_eq_false (by omega)
  clear hx hy
  go_enter Try.func49, Try.ntmps49
  go_wp2_with fail
  first | refine settle_wp (fun wS => AnyLater w wS ∧ wS.heap[w.heap.size]? = some (.cells #[.int .i64 f, .int .i64 t] 75) ∧ wS.heap[w.heap.size + 1]? = some (.cells #[.int .i64 a, .int .i64 o, .int .i64 i] 71) ∧ wS.heap[w.heap.size + 1 + 1]? = some (.cells #[.int .i64 0, .int .i64 0] 75)) ?_ ?_ | refine settle_calls (fun wS => AnyLater w wS ∧ wS.heap[w.heap.size]? = some (.cells #[.int .i64 f, .int .i64 t] 75) ∧ wS.heap[w.heap.size + 1]? = some (.cells #[.int .i64 a, .int .i64 o, .int .i64 i] 71) ∧ wS.heap[w.heap.size + 1 + 1]? = some (.cells #[.int .i64 0, .int .i64 0] 75)) ?_ ?_
  · refine ⟨?_, ?_, ?_, ?_⟩
    · repeat' (first | with_reducible assumption | with_reducible exact AnyLater.refl _ | with_reducible apply AnyLater.setCell | with_reducible apply AnyLater.later | with_reducible apply AnyLater.drewN | with_reducible apply AnyLater.drew | with_reducible apply AnyLater.alloc | ((try simp only [World.size_alloc, World.size_setCell, World.size_drew]); (try dsimp only); omega))
    · ((repeat (first | with_reducible assumption | ((with_reducible apply heap_new); (try simp only [World.size_alloc, World.size_setCell, World.size_drew, World.heap_drewN]); done) | ((with_reducible apply heap_new); (try simp only [World.size_alloc, World.size_setCell, World.size_drew, World.heap_drewN]); omega) | (with_reducible refine heap_old (by (try simp only [World.size_alloc, World.size_setCell, World.size_drew, World.heap_drewN]); omega) ?_) | (with_reducible refine heap_drew ?_) | (with_reducible refine heap_far (by omega) ?_) | (with_reducible apply heap_at))); all_goals rfl)
    · ((repeat (first | with_reducible assumption | ((with_reducible apply heap_new); (try simp only [World.size_alloc, World.size_setCell, World.size_drew, World.heap_drewN]); done) | ((with_reducible apply heap_new); (try simp only [World.size_alloc, World.size_setCell, World.size_drew, World.heap_drewN]); omega) | (with_reducible refine heap_old (by (try simp only [World.size_alloc, World.size_setCell, World.size_drew, World.heap_drewN]); omega) ?_) | (with_reducible refine heap_drew ?_) | (with_reducible refine heap_far (by omega) ?_) | (with_reducible apply heap_at))); all_goals rfl)
    · ((repeat (first | with_reducible assumption | ((with_reducible apply heap_new); (try simp only [World.size_alloc, World.size_setCell, World.size_drew, World.heap_drewN]); done) | ((with_reducible apply heap_new); (try simp only [World.size_alloc, World.size_setCell, World.size_drew, World.heap_drewN]); omega) | (with_reducible refine heap_old (by (try simp only [World.size_alloc, World.size_setCell, World.size_drew, World.heap_drewN]); omega) ?_) | (with_reducible refine heap_drew ?_) | (with_reducible refine heap_far (by omega) ?_) | (with_reducible apply heap_at))); all_goals rfl)
  rintro w1 ⟨b_w1, s0_w1, s1_w1, s2_w1⟩
  have a_w1 := b_w1
  have r0_w1 := own_row s0_w1
  have f0_w1 := own_free s0_w1
  have l0_w1 := own_lt s0_w1
  have r1_w1 := own_row s1_w1
  have f1_w1 := own_free s1_w1
  have l1_w1 := own_lt s1_w1
  have r2_w1 := own_row s2_w1
  have f2_w1 := own_free s2_w1
  have l2_w1 := own_lt s2_w1
  have z_w1 := b_w1.below.size
  apply wp_region_free (9) [⟨3, 9, .int .i64 x, false, fun v _ => v = .int .i64 x⟩, ⟨7, 13, .int .i64 y, false, fun v _ => v = .int .i64 y⟩] [] rfl (by kernel_rfl) (by kernel_rfl) (by kernel_rfl) (by simp) (by kernel_rfl)
  case hstab =>
    intro c hc
    simp only [List.mem_cons, List.not_mem_nil, or_false] at hc
    rcases hc with rfl | rfl
    · intro v x y hxy hv; exact hv
    · intro v x y hxy hv; exact hv
  case hfix =>
    intro c hc
    simp only [List.mem_cons, List.not_mem_nil, or_false] at hc
    rcases hc with rfl | rfl
    · exact .inr fun u x h => h
    · exact .inr fun u x h => h
  case hlex =>
    intro U hU
    have q0 := own_row (any_own hU s0_w1)
    have q1 := own_row (any_own hU s1_w1)
    have q2 := own_row (any_own hU s2_w1)
    simp only [List.map_cons, List.map_nil, CA.act, actFrom, actOp, List.lookup, Nat.reduceBEq, Nat.reduceLeDiff, Nat.reduceAdd, if_false, if_true]
    repeat (go_big_quiet_step (first | fail))
    exact wpQuiet_nil rfl
  case hstep =>
    intro j hj o ho
    have hj2 : j = 0 ∨ j = 1 := by simp at hj; omega
    rcases hj2 with rfl | rfl
    · cases ho
      refine ⟨rfl, fun g x hx hp => ?_⟩
      clear hp
      simp only [fillAll, Act.put, List.setIfInBounds_toArray, List.set_cons_zero, List.set_cons_succ]
      refine chain_go ?_ (free_fix (HX.out x))
      simp [go_sem, execOp]
    · cases ho
      refine ⟨rfl, fun g x hx hp => ?_⟩
      clear hp
      simp only [fillAll, Act.put, List.setIfInBounds_toArray, List.set_cons_zero, List.set_cons_succ]
      refine chain_go ?_ (free_fix (HY.out x))
      simp [go_sem, execOp]
  case htail =>
    intro g u hst hne
    have b_w2 : AnyLater w1 (later u) := ⟨u, rfl⟩
    generalize later u = w2 at *
    clear u
    clear hst hne
    simp only [fillAll, Act.put, List.setIfInBounds_toArray, List.set_cons_zero, List.set_cons_succ, List.drop_succ_cons, List.drop_zero, List.drop_nil]
    have z_w2 := b_w2.below.size
    have a_w2 := a_w1.trans b_w2
    have s0_w2 := any_own b_w2 s0_w1
    have s1_w2 := any_own b_w2 s1_w1
    have s2_w2 := any_own b_w2 s2_w1
    have r0_w2 := own_row s0_w2
    have f0_w2 := own_free s0_w2
    have l0_w2 := own_lt s0_w2
    have r1_w2 := own_row s1_w2
    have f1_w2 := own_free s1_w2
    have l1_w2 := own_lt s1_w2
    have r2_w2 := own_row s2_w2
    have f2_w2 := own_free s2_w2
    have l2_w2 := own_lt s2_w2
    (try clear r0_w1); (try clear f0_w1)
    (try clear r1_w1); (try clear f1_w1)
    (try clear r2_w1); (try clear f2_w1)
    go_wp2_with fail
    refine bodyPost_ret (v := .tuple #[.agg #[.int .i64 x, .int .i64 y], .bool true]) (by simp [results, Try.results49, go_sem, r0_w2, r2_w2]) rfl ⟨rfl, ?_⟩
    repeat' (first | with_reducible assumption | with_reducible exact AnyLater.refl _ | with_reducible apply AnyLater.setCell | with_reducible apply AnyLater.later | with_reducible apply AnyLater.drewN | with_reducible apply AnyLater.drew | with_reducible apply AnyLater.alloc | ((try simp only [World.size_alloc, World.size_setCell, World.size_drew]); (try dsimp only); omega))
set_option maxRecDepth 100000 in
theorem mspan_no (f t a o i x y : Int) (w : World) (hx : rightZ f a o i = x) (hy : leftZ t a o i = y) (h : ¬ x < y) : Calls Try.prog 49 #[.agg #[.int .i64 f, .int .i64 t], .agg #[.int .i64 a, .int .i64 o, .int .i64 i]] w fun e w' => e = .returned (.tuple #[.agg #[.int .i64 0, .int .i64 0], .bool false]) ∧ AnyLater w w' := by
  have HX := Lib.hid (fun w => mright_any f a o i w x hx)
  have HY := Lib.hid (fun w => mleft_any t a o i w y hy)
  have d : y ≤ x := by omega
  clear hx hy
  go_enter Try.func49, Try.ntmps49
  go_wp2_with fail
  first | refine settle_wp (fun wS => AnyLater w wS ∧ wS.heap[w.heap.size]? = some (.cells #[.int .i64 f, .int .i64 t] 75) ∧ wS.heap[w.heap.size + 1]? = some (.cells #[.int .i64 a, .int .i64 o, .int .i64 i] 71) ∧ wS.heap[w.heap.size + 1 + 1]? = some (.cells #[.int .i64 0, .int .i64 0] 75)) ?_ ?_ | refine settle_calls (fun wS => AnyLater w wS ∧ wS.heap[w.heap.size]? = some (.cells #[.int .i64 f, .int .i64 t] 75) ∧ wS.heap[w.heap.size + 1]? = some (.cells #[.int .i64 a, .int .i64 o, .int .i64 i] 71) ∧ wS.heap[w.heap.size + 1 + 1]? = some (.cells #[.int .i64 0, .int .i64 0] 75)) ?_ ?_
  · refine ⟨?_, ?_, ?_, ?_⟩
    · repeat' (first | with_reducible assumption | with_reducible exact AnyLater.refl _ | with_reducible apply AnyLater.setCell | with_reducible apply AnyLater.later | with_reducible apply AnyLater.drewN | with_reducible apply AnyLater.drew | with_reducible apply AnyLater.alloc | ((try simp only [World.size_alloc, World.size_setCell, World.size_drew]); (try dsimp only); omega))
    · ((repeat (first | with_reducible assumption | ((with_reducible apply heap_new); (try simp only [World.size_alloc, World.size_setCell, World.size_drew, World.heap_drewN]); done) | ((with_reducible apply heap_new); (try simp only [World.size_alloc, World.size_setCell, World.size_drew, World.heap_drewN]); omega) | (with_reducible refine heap_old (by (try simp only [World.size_alloc, World.size_setCell, World.size_drew, World.heap_drewN]); omega) ?_) | (with_reducible refine heap_drew ?_) | (with_reducible refine heap_far (by omega) ?_) | (with_reducible apply heap_at))); all_goals rfl)
    · ((repeat (first | with_reducible assumption | ((with_reducible apply heap_new); (try simp only [World.size_alloc, World.size_setCell, World.size_drew, World.heap_drewN]); done) | ((with_reducible apply heap_new); (try simp only [World.size_alloc, World.size_setCell, World.size_drew, World.heap_drewN]); omega) | (with_reducible refine heap_old (by (try simp only [World.size_alloc, World.size_setCell, World.size_drew, World.heap_drewN]); omega) ?_) | (with_reducible refine heap_drew ?_) | (with_reducible refine heap_far (by omega) ?_) | (with_reducible apply heap_at))); all_goals rfl)
    · ((repeat (first | with_reducible assumption | ((with_reducible apply heap_new); (try simp only [World.size_alloc, World.size_setCell, World.size_drew, World.heap_drewN]); done) | ((with_reducible apply heap_new); (try simp only [World.size_alloc, World.size_setCell, World.size_drew, World.heap_drewN]); omega) | (with_reducible refine heap_old (by (try simp only [World.size_alloc, World.size_setCell, World.size_drew, World.heap_drewN]); omega) ?_) | (with_reducible refine heap_drew ?_) | (with_reducible refine heap_far (by omega) ?_) | (with_reducible apply heap_at))); all_goals rfl)
  rintro w1 ⟨b_w1, s0_w1, s1_w1, s2_w1⟩
  have a_w1 := b_w1
  have r0_w1 := own_row s0_w1
  have f0_w1 := own_free s0_w1
  have l0_w1 := own_lt s0_w1
  have r1_w1 := own_row s1_w1
  have f1_w1 := own_free s1_w1
  have l1_w1 := own_lt s1_w1
  have r2_w1 := own_row s2_w1
  have f2_w1 := own_free s2_w1
  have l2_w1 := own_lt s2_w1
  have z_w1 := b_w1.below.size
  apply wp_region_free (9) [⟨3, 9, .int .i64 x, false, fun v _ => v = .int .i64 x⟩, ⟨7, 13, .int .i64 y, false, fun v _ => v = .int .i64 y⟩] [] rfl (by kernel_rfl) (by kernel_rfl) (by kernel_rfl) (by simp) (by kernel_rfl)
  case hstab =>
    intro c hc
    simp only [List.mem_cons, List.not_mem_nil, or_false] at hc
    rcases hc with rfl | rfl
    · intro v x y hxy hv; exact hv
    · intro v x y hxy hv; exact hv
  case hfix =>
    intro c hc
    simp only [List.mem_cons, List.not_mem_nil, or_false] at hc
    rcases hc with rfl | rfl
    · exact .inr fun u x h => h
    · exact .inr fun u x h => h
  case hlex =>
    intro U hU
    have q0 := own_row (any_own hU s0_w1)
    have q1 := own_row (any_own hU s1_w1)
    have q2 := own_row (any_own hU s2_w1)
    simp only [List.map_cons, List.map_nil, CA.act, actFrom, actOp, List.lookup, Nat.reduceBEq, Nat.reduceLeDiff, Nat.reduceAdd, if_false, if_true]
    repeat (go_big_quiet_step (first | fail))
    exact wpQuiet_nil rfl
  case hstep =>
    intro j hj o ho
    have hj2 : j = 0 ∨ j = 1 := by simp at hj; omega
    rcases hj2 with rfl | rfl
    · cases ho
      refine ⟨rfl, fun g x hx hp => ?_⟩
      clear hp
      simp only [fillAll, Act.put, List.setIfInBounds_toArray, List.set_cons_zero, List.set_cons_succ]
      refine chain_go ?_ (free_fix (HX.out x))
      simp [go_sem, execOp]
    · cases ho
      refine ⟨rfl, fun g x hx hp => ?_⟩
      clear hp
      simp only [fillAll, Act.put, List.setIfInBounds_toArray, List.set_cons_zero, List.set_cons_succ]
      refine chain_go ?_ (free_fix (HY.out x))
      simp [go_sem, execOp]
  case htail =>
    intro g u hst hne
    have b_w2 : AnyLater w1 (later u) := ⟨u, rfl⟩
    generalize later u = w2 at *
    clear u
    clear hst hne
    simp only [fillAll, Act.put, List.setIfInBounds_toArray, List.set_cons_zero, List.set_cons_succ, List.drop_succ_cons, List.drop_zero, List.drop_nil]
    have z_w2 := b_w2.below.size
    have a_w2 := a_w1.trans b_w2
    have s0_w2 := any_own b_w2 s0_w1
    have s1_w2 := any_own b_w2 s1_w1
    have s2_w2 := any_own b_w2 s2_w1
    have r0_w2 := own_row s0_w2
    have f0_w2 := own_free s0_w2
    have l0_w2 := own_lt s0_w2
    have r1_w2 := own_row s1_w2
    have f1_w2 := own_free s1_w2
    have l1_w2 := own_lt s1_w2
    have r2_w2 := own_row s2_w2
    have f2_w2 := own_free s2_w2
    have l2_w2 := own_lt s2_w2
    (try clear r0_w1); (try clear f0_w1)
    (try clear r1_w1); (try clear f1_w1)
    (try clear r2_w1); (try clear f2_w1)
    go_wp2_with fail
    refine bodyPost_ret (v := .tuple #[.agg #[.int .i64 0, .int .i64 0], .bool false]) (by simp [results, Try.results49, go_sem, r0_w2, r2_w2]) rfl ⟨rfl, ?_⟩
    repeat' (first | with_reducible assumption | with_reducible exact AnyLater.refl _ | with_reducible apply AnyLater.setCell | with_reducible apply AnyLater.later | with_reducible apply AnyLater.drewN | with_reducible apply AnyLater.drew | with_reducible apply AnyLater.alloc | ((try simp only [World.size_alloc, World.size_setCell, World.size_drew]); (try dsimp only); omega))
/-- Span as a value -/
def spanV : Option (Int × Int) → Value
  | some s => .tuple #[.agg #[.int .i64 s.1, .int .i64 s.2], .bool true]
  | none => .tuple #[.agg #[.int .i64 0, .int .i64 0], .bool false]
theorem mspan_any (f t a o i : Int) (w : World) (c : Option (Int × Int)) (hc : spanZ a o i (f, t) = c) : Calls Try.prog 49 #[.agg #[.int .i64 f, .int .i64 t], .agg #[.int .i64 a, .int .i64 o, .int .i64 i]] w fun e w' => e = .returned (spanV c) ∧ AnyLater w w' := by
  subst hc
  unfold spanZ
  by_cases h : rightZ f a o i < leftZ t a o i
  · rw [if_pos h]; exact mspan_yes f t a o i _ _ w rfl rfl h
  · rw [if_neg h]; exact mspan_no f t a o i _ _ w rfl rfl h

/-! ### All -/
def spansZ (a o i : Int) (l : Qs) : Qs := l.filterMap (spanZ a o i)
theorem spansZ_take {a o i : Int} {l : Qs} {j : Nat} (h : j < l.length) : spansZ a o i (l.take (j + 1)) = spansZ a o i (l.take j) ++ (spanZ a o i l[j]).toList := by
  unfold spansZ
  rw [List.take_succ_eq_append_getElem h, List.filterMap_append]
  cases hs : spanZ a o i l[j] <;> simp [hs]
theorem spansZ_le (a o i : Int) (l : Qs) : (spansZ a o i l).length ≤ l.length := List.length_filterMap_le _ _
theorem spansZ_take_le (a o i : Int) (l : Qs) (j : Nat) : (spansZ a o i (l.take j)).length ≤ j := Nat.le_trans (spansZ_le a o i _) (by rw [List.length_take]; omega)
theorem spanZ_some {a o i f t x y : Int} (h : spanZ a o i (f, t) = some (x, y)) : rightZ f a o i = x ∧ leftZ t a o i = y ∧ x < y := by
  unfold spanZ at h
  split at h
  · cases h; exact ⟨rfl, rfl, by assumption⟩
  · cases h
theorem spanZ_none {a o i f t : Int} (h : spanZ a o i (f, t) = none) : ¬ rightZ f a o i < leftZ t a o i := by
  unfold spanZ at h
  split at h
  · cases h
  · assumption
/-- a row of spans of the call's own -/
def RowS (W : World) (l : Qs) (e : Ending) (w' : World) : Prop := ∃ v, e = .returned v ∧ AnyLater W w' ∧ OQ 75 w' W.heap.size v l
set_option maxRecDepth 100000 in
theorem pairSpan : PairT 75 69 := ⟨Try.underlying69, by kernel_rfl, by kernel_rfl, fun w => by simp [go_sem]⟩
theorem qbox {w w1 : World} {x y : Value} {t : TypeId} (h : AnyLater (w.alloc (.cells #[x, y] t)) w1) : w1.cell? ⟨w.heap.size, 0, none⟩ = some x ∧ w1.cell? ⟨w.heap.size, 1, none⟩ = some y := by
  have h3 : (w.alloc (.cells #[x, y] t)).heap[w.heap.size]? = some (.cells #[x, y] t) := heap_new rfl
  exact ⟨(h.below.cell (own_lt h3)).trans (by rw [own_row h3]; rfl), (h.below.cell (own_lt h3)).trans (by rw [own_row h3]; rfl)⟩
set_option maxRecDepth 100000 in
set_option maxHeartbeats 1600000 in
theorem mall_any (v : Value) (l : Qs) (a o i : Int) (M : Qs) (w : World) (hM : spansZ a o i l = M) (hv : QR w v l) (hl : l.length ≤ 100000) : Calls Try.prog 47 #[v, .agg #[.int .i64 a, .int .i64 o, .int .i64 i]] w (RowS w M) := by
  obtain ⟨A, cap, rfl, h2, h3⟩ := hv
  have HCC : Hid (∀ (j : Nat) (h : j < l.length), ∃ b off, A = some ⟨b, off, none⟩ ∧ b < w.heap.size ∧ w.cell? ⟨b, off + j * 2, none⟩ = some (.int .i64 l[j].1) ∧ w.cell? ⟨b, off + j * 2 + 1, none⟩ = some (.int .i64 l[j].2)) := Lib.hid (fun j hj => by
    obtain ⟨b, off, e, hb, hc⟩ := h3 (by omega)
    exact ⟨b, off, e, hb, hc j hj⟩)
  have HT : Hid (∀ (j : Nat) (h : j < l.length), spansZ a o i (l.take (j + 1)) = spansZ a o i (l.take j) ++ (spanZ a o i l[j]).toList) := Lib.hid (fun j h => spansZ_take h)
  have HLe : Hid (∀ j, (spansZ a o i (l.take j)).length ≤ j) := Lib.hid (spansZ_take_le a o i l)
  have HEnd : Hid (spansZ a o i (l.take l.length) = M) := Lib.hid (by rw [List.take_length]; exact hM)
  have HL : Hid (l.length = l.length) := Lib.hid rfl
  obtain ⟨n, hn⟩ : ∃ n, l.length = n := ⟨_, rfl⟩
  have HN := Lib.hid hn
  rw [hn] at HEnd h2 hl ⊢
  have HA0 := Lib.hid ((AnyLater.refl w).alloc (.cells #[.int .i64 a, .int .i64 o, .int .i64 i] 71))
  clear h3 hM HL hn
  go_enter Try.func47, Try.ntmps47
  go_wp2_with fail
  go_loopg [5, 12] n (fun kk ov iv wr => ∃ (j : Nat), kk = n - j ∧ j ≤ n ∧ iv = .int .i64 (j : Int) ∧ AnyLater (w.alloc (.cells #[.int .i64 a, .int .i64 o, .int .i64 i] 71)) wr ∧ OQ 75 wr (w.heap.size + 1) ov (spansZ a o i (l.take j)))
  case atStart => exact ⟨0, by omega, by omega, rfl, AnyLater.refl _, OQ.nil _ _ _⟩
  case round =>
    obtain ⟨j, hk, hj, rfl, a_wr, ho⟩ := hrel
    have HO := Lib.hid ho
    have HA := Lib.hid a_wr
    obtain ⟨A4, cap4, rfl, -⟩ := ho.form
    by_cases hlt : j < n
    · have lj : j < l.length := by rw [HN.out]; exact hlt
      obtain ⟨b, off, rfl, hb, k0, k1⟩ := HCC.out j lj
      have hb1 : b < (w.alloc (.cells #[.int .i64 a, .int .i64 o, .int .i64 i] 71)).heap.size := by rw [World.size_alloc]; omega
      have c0 : wr.cell? ⟨b, off + j * 2, none⟩ = some (.int .i64 l[j].1) := ((HA0.out.trans a_wr).below.cell hb).trans k0
      have c1 : wr.cell? ⟨b, off + j * 2 + 1, none⟩ = some (.int .i64 l[j].2) := ((HA0.out.trans a_wr).below.cell hb).trans k1
      obtain ⟨d0, d1, d2⟩ := box_three a_wr
      have lw : w.heap.size < wr.heap.size := by have := a_wr.below.size; rw [World.size_alloc] at this; omega
      have hT := HT.out j lj
      clear k0 k1
      generalize l[j] = x at *
      obtain ⟨f, t⟩ := x
      simp only at c0 c1 hT
      have HB := Lib.hid ((AnyLater.refl wr).alloc (.cells #[.int .i64 f, .int .i64 t] 75))
      have HLj := HLe.out j
      rcases hs : spanZ a o i (f, t) with _ | ⟨x, y⟩
      · have HF := Lib.hid (fun w => mspan_no f t a o i _ _ w rfl rfl (spanZ_none hs))
        rw [hs] at hT
        have HT2 := Lib.hid (hT.trans (List.append_nil _))
        clear hs hT ho a_wr
        generalize (spansZ a o i (l.take j)).length = m at *
        go_wp2_with (go_at_call 49; refine (HF.out _).mono ?_; rintro e w1 ⟨rfl, b1⟩; have HB1 := Lib.hid ((HB.out.trans b1).alloc (.cells #[.int .i64 0, .int .i64 0] 75)); clear b1)
        go_roundg (n - (j + 1))
        case measure => omega
        case rel => exact ⟨j + 1, rfl, hlt, by go_num, HA.out.trans HB1.out, by rw [HT2.out]; exact OQ.later HB1.out HO.out⟩
      · obtain ⟨e1, e2, e3⟩ := spanZ_some hs
        have HF := Lib.hid (fun w => mspan_yes f t a o i x y w e1 e2 e3)
        rw [hs] at hT
        have HT2 := Lib.hid hT
        clear hs hT ho a_wr e1 e2 e3
        generalize hm : (spansZ a o i (l.take j)).length = m at *
        have HM := Lib.hid hm
        clear hm
        have lw1 : w.heap.size + 1 ≤ wr.heap.size := lw
        go_wp2_with (first | (go_at_call 49; refine (HF.out _).mono ?_; rintro e w1 ⟨rfl, b1⟩; have hb1 := (HB.out.trans b1).alloc (.cells #[.int .i64 x, .int .i64 y] 75); obtain ⟨u, w3, q1, q2, q3⟩ := appQ1 pairSpan (x, y) (OQ.later hb1 HO.out) (Nat.le_trans lw1 hb1.below.size) (by rw [HM.out]; omega); rw [World.size_alloc] at q1; have K1 := Lib.hid q1; have K2 := Lib.hid (And.intro (q3 (w.alloc (.cells #[.int .i64 a, .int .i64 o, .int .i64 i] 71)) (by rw [World.size_alloc]; omega) (HA.out.trans hb1)) q2); clear b1 hb1 q1 q2 q3) | (at_builtin; refine Lib.wpList_append_run _ rfl _ _ _ _ rfl _ _ rfl rfl _ _ K1.out ?_))
        go_roundg (n - (j + 1))
        case measure => omega
        case rel => exact ⟨j + 1, rfl, hlt, by go_num, K2.out.1, by rw [HT2.out]; exact K2.out.2⟩
    · obtain rfl : j = n := by omega
      clear a_wr ho
      go_wp2_with fail
      go_ret
      exact ⟨_, rfl, HA0.out.trans HA.out, OQ.wide (B := w.heap.size + 1) (by omega) (by rw [← HEnd.out]; exact HO.out)⟩
end Go.Proofs.Ytiicaldnegcdiaa
