/- rect: what of a rectangle lies around another one within it. -/
import Derived.Test.YtddmhonhajfehaaRectE
import Derived.Test.YtddmhonhajfehaaRegion
namespace Go.Proofs.Ytddmhonhajfehaa
set_option linter.unusedSimpArgs false
set_option linter.unusedVariables false
set_option linter.unusedSectionVars false
open Go.RowKit

theorem around_any (x y a b x2 y2 a2 b2 : Int) (w : World) (h1 : -1073741824 ≤ x ∧ x ≤ x2 ∧ 0 < a2 ∧ x2 + a2 ≤ x + a ∧ x + a ≤ 1073741824) (h2 : -1073741824 ≤ y ∧ y ≤ y2 ∧ 0 < b2 ∧ y2 + b2 ≤ y + b ∧ y + b ≤ 1073741824) :
    Calls Try.prog 24 #[.agg #[.int .i64 x, .int .i64 y, .int .i64 a, .int .i64 b], .agg #[.int .i64 x2, .int .i64 y2, .int .i64 a2, .int .i64 b2]] w fun e w' => e = .returned (.agg #[.int .i64 x, .int .i64 y, .int .i64 a, .int .i64 (y2 - y),
      .int .i64 x, .int .i64 y2, .int .i64 (x2 - x), .int .i64 b2, .int .i64 (x2 + a2), .int .i64 y2, .int .i64 (x + a - x2 - a2), .int .i64 b2, .int .i64 x, .int .i64 (y2 + b2), .int .i64 a, .int .i64 (y + b - y2 - b2)]) ∧ AnyLater w w' := by
  obtain ⟨p1, p2, p3, p4, p5⟩ := h1
  obtain ⟨p6, p7, p8, p9, p10⟩ := h2
  obtain ⟨rt, e1⟩ : ∃ c, x2 + a2 = c := ⟨_, rfl⟩
  obtain ⟨bt, e2⟩ : ∃ c, y2 + b2 = c := ⟨_, rfl⟩
  obtain ⟨ar, e3⟩ : ∃ c, x + a - x2 - a2 = c := ⟨_, rfl⟩
  obtain ⟨ab, e4⟩ : ∃ c, y + b - y2 - b2 = c := ⟨_, rfl⟩
  have E3 : ar ≤ x + a - rt ∧ x + a - rt ≤ ar := by omega
  have E4 : ab ≤ y + b - bt ∧ y + b - bt ≤ ab := by omega
  have H3 := Lib.hid e3
  have H4 := Lib.hid e4
  rw [e3, e4, e1, e2]
  clear e3 e4
  have E1 : rt ≤ x2 + a2 ∧ x2 + a2 ≤ rt := by omega
  have E2 : bt ≤ y2 + b2 ∧ y2 + b2 ≤ bt := by omega
  go_enter Try.func24, Try.ntmps24
  go_wp2_with fail
  first | refine settle_wp (fun wS => AnyLater w wS ∧ wS.heap[w.heap.size]? = some (.cells #[.int .i64 x, .int .i64 y, .int .i64 a, .int .i64 b] 23) ∧ wS.heap[w.heap.size + 1]? = some (.cells #[.int .i64 x2, .int .i64 y2, .int .i64 a2, .int .i64 b2] 23) ∧ wS.heap[w.heap.size + 1 + 1]? = some (.cells #[.int .i64 0, .int .i64 0, .int .i64 0, .int .i64 0, .int .i64 0, .int .i64 0, .int .i64 0, .int .i64 0, .int .i64 0, .int .i64 0, .int .i64 0, .int .i64 0, .int .i64 0, .int .i64 0, .int .i64 0, .int .i64 0] 37)) ?_ ?_ | refine settle_calls (fun wS => AnyLater w wS ∧ wS.heap[w.heap.size]? = some (.cells #[.int .i64 x, .int .i64 y, .int .i64 a, .int .i64 b] 23) ∧ wS.heap[w.heap.size + 1]? = some (.cells #[.int .i64 x2, .int .i64 y2, .int .i64 a2, .int .i64 b2] 23) ∧ wS.heap[w.heap.size + 1 + 1]? = some (.cells #[.int .i64 0, .int .i64 0, .int .i64 0, .int .i64 0, .int .i64 0, .int .i64 0, .int .i64 0, .int .i64 0, .int .i64 0, .int .i64 0, .int .i64 0, .int .i64 0, .int .i64 0, .int .i64 0, .int .i64 0, .int .i64 0] 37)) ?_ ?_
  · refine ⟨?_, ?_, ?_, ?_⟩
    · repeat' (first | with_reducible assumption | with_reducible exact AnyLater.refl _ | with_reducible apply AnyLater.setCell | with_reducible apply AnyLater.later | with_reducible apply AnyLater.drewN | with_reducible apply AnyLater.drew | with_reducible apply AnyLater.alloc | ((try simp only [World.size_alloc, World.size_setCell, World.size_drew]); (try dsimp only); omega))
    · ((repeat (first | with_reducible assumption | ((with_reducible apply heap_new); (try simp only [World.size_alloc, World.size_setCell, World.size_drew, World.heap_drewN]); done) | ((with_reducible apply heap_new); (try simp only [World.size_alloc, World.size_setCell, World.size_drew, World.heap_drewN]); omega) | (with_reducible refine heap_old (by (try simp only [World.size_alloc, World.size_setCell, World.size_drew, World.heap_drewN]); omega) ?_) | (with_reducible refine heap_drew ?_) | (with_reducible refine heap_far (by omega) ?_) | (with_reducible apply heap_at))); all_goals rfl)
    · ((repeat (first | with_reducible assumption | ((with_reducible apply heap_new); (try simp only [World.size_alloc, World.size_setCell, World.size_drew, World.heap_drewN]); done) | ((with_reducible apply heap_new); (try simp only [World.size_alloc, World.size_setCell, World.size_drew, World.heap_drewN]); omega) | (with_reducible refine heap_old (by (try simp only [World.size_alloc, World.size_setCell, World.size_drew, World.heap_drewN]); omega) ?_) | (with_reducible refine heap_drew ?_) | (with_reducible refine heap_far (by omega) ?_) | (with_reducible apply heap_at))); all_goals rfl)
    · ((repeat (first | with_reducible assumption | ((with_reducible apply heap_new); (try simp only [World.size_alloc, World.size_setCell, World.size_drew, World.heap_drewN]); done) | ((with_reducible apply heap_new); (try simp only [World.size_alloc, World.size_setCell, World.size_drew, World.heap_drewN]); omega) | (with_reducible refine heap_old (by (try simp only [World.size_alloc, World.size_setCell, World.size_drew, World.heap_drewN]); omega) ?_) | (with_reducible refine heap_drew ?_) | (with_reducible refine heap_far (by omega) ?_) | (with_reducible apply heap_at))); all_goals rfl)
  rintro w1 ⟨b_w1, s0_w1, s1_w1, s2_w1⟩
  have a_w1 := b_w1
  have r0_w1 := own_row s0_w1
  have f0_w1 := own_free s0_w1
  have l0_w1 := own_lt s0_w1
  have r1_w1 := own_row s1_w1
  have f1_w1 := own_free s1_w1
  have l1_w1 := own_lt s1_w1
  have r2_w1 := own_row s2_w1
  have f2_w1 := own_free s2_w1
  have l2_w1 := own_lt s2_w1
  have z_w1 := b_w1.below.size
  apply wp_region_mem (12) [] (by kernel_rfl) (by kernel_rfl) (by simp)
  case hstab =>
    intro e he v x y hxy hv
    simp only [List.mem_cons, List.not_mem_nil, or_false] at he
  case hlex =>
    intro U
    have q0 := fun (v : Later (later U)) => own_row (any_own ⟨v, rfl⟩ (any_own ⟨U, rfl⟩ s0_w1))
    have q1 := fun (v : Later (later U)) => own_row (any_own ⟨v, rfl⟩ (any_own ⟨U, rfl⟩ s1_w1))
    have q2 := fun (v : Later (later U)) => own_row (any_own ⟨v, rfl⟩ (any_own ⟨U, rfl⟩ s2_w1))
    simp only [absFrom, absOp, idx, List.map_cons, List.map_nil, List.contains_cons, List.contains_nil, Nat.reduceBEq, Bool.or_false, Bool.false_or, Bool.true_or, Bool.or_true, Bool.false_eq_true, Nat.reduceLeDiff, Nat.reduceAdd, if_false, if_true]
    repeat (go_big_quiet_step (fail))
    exact wpQuiet_nil rfl
  case hown =>
    intro e he o ho
    simp only [List.mem_cons, List.not_mem_nil, or_false] at he
  case htail =>
    intro g u hst hne
    have b_w2 : AnyLater w1 (later u) := ⟨u, rfl⟩
    generalize later u = w2 at *
    clear u
    clear hst hne
    simp only [fillAll, Act.put, List.setIfInBounds_toArray, List.set_cons_zero, List.set_cons_succ, List.drop_succ_cons, List.drop_zero]
    have z_w2 := b_w2.below.size
    have a_w2 := a_w1.trans b_w2
    have s0_w2 := any_own b_w2 s0_w1
    have s1_w2 := any_own b_w2 s1_w1
    have s2_w2 := any_own b_w2 s2_w1
    have r0_w2 := own_row s0_w2
    have f0_w2 := own_free s0_w2
    have l0_w2 := own_lt s0_w2
    have r1_w2 := own_row s1_w2
    have f1_w2 := own_free s1_w2
    have l1_w2 := own_lt s1_w2
    have r2_w2 := own_row s2_w2
    have f2_w2 := own_free s2_w2
    have l2_w2 := own_lt s2_w2
    (try clear r0_w1); (try clear f0_w1)
    (try clear r1_w1); (try clear f1_w1)
    (try clear r2_w1); (try clear f2_w1)
    go_wp2_with fail
    apply wp_region_mem (45) [] (by kernel_rfl) (by kernel_rfl) (by simp)
    case hstab =>
      intro e he v x y hxy hv
      simp only [List.mem_cons, List.not_mem_nil, or_false] at he
    case hlex =>
      intro U
      have q0 := fun (v : Later (later U)) => own_row (any_own ⟨v, rfl⟩ (any_own ⟨U, rfl⟩ s0_w2))
      have q1 := fun (v : Later (later U)) => own_row (any_own ⟨v, rfl⟩ (any_own ⟨U, rfl⟩ s1_w2))
      have q2 := fun (v : Later (later U)) => own_row (any_own ⟨v, rfl⟩ (any_own ⟨U, rfl⟩ s2_w2))
      simp only [absFrom, absOp, idx, List.map_cons, List.map_nil, List.contains_cons, List.contains_nil, Nat.reduceBEq, Bool.or_false, Bool.false_or, Bool.true_or, Bool.or_true, Bool.false_eq_true, Nat.reduceLeDiff, Nat.reduceAdd, if_false, if_true]
      repeat (go_big_quiet_step (first | (go_at_call 21; first | exact in_later (between_any _ _ _ _ _ (by omega) (by omega) x y a (y2 - y) (by omega) (by omega) (by omega) (by omega)) | exact in_later (between_any _ _ _ _ _ (by omega) (by omega) x y2 (x2 - x) b2 (by omega) (by omega) (by omega) (by omega)) | exact in_later (between_any _ _ _ _ _ (by omega) (by omega) rt y2 ar b2 (by omega) (by omega) (by omega) (by omega)) | exact in_later (between_any _ _ _ _ _ (by omega) (by omega) x bt a ab (by omega) (by omega) (by omega) (by omega)))))
      exact wpQuiet_nil rfl
    case hown =>
      intro e he o ho
      simp only [List.mem_cons, List.not_mem_nil, or_false] at he
    case htail =>
      intro g u hst hne
      have b_w3 : AnyLater w2 (later u) := ⟨u, rfl⟩
      generalize later u = w3 at *
      clear u
      clear hst hne
      simp only [fillAll, Act.put, List.setIfInBounds_toArray, List.set_cons_zero, List.set_cons_succ, List.drop_succ_cons, List.drop_zero]
      have z_w3 := b_w3.below.size
      have a_w3 := a_w2.trans b_w3
      have s0_w3 := any_own b_w3 s0_w2
      have s1_w3 := any_own b_w3 s1_w2
      have s2_w3 := any_own b_w3 s2_w2
      have r0_w3 := own_row s0_w3
      have f0_w3 := own_free s0_w3
      have l0_w3 := own_lt s0_w3
      have r1_w3 := own_row s1_w3
      have f1_w3 := own_free s1_w3
      have l1_w3 := own_lt s1_w3
      have r2_w3 := own_row s2_w3
      have f2_w3 := own_free s2_w3
      have l2_w3 := own_lt s2_w3
      (try clear r0_w2); (try clear f0_w2)
      (try clear r1_w2); (try clear f1_w2)
      (try clear r2_w2); (try clear f2_w2)
      go_wp2_with fail
      refine bodyPost_ret (v := .agg #[.int .i64 x, .int .i64 y, .int .i64 a, .int .i64 (y2 - y), .int .i64 x, .int .i64 y2, .int .i64 (x2 - x), .int .i64 b2, .int .i64 rt, .int .i64 y2, .int .i64 ar, .int .i64 b2, .int .i64 x, .int .i64 bt, .int .i64 a, .int .i64 ab])
        (by simp [results, Try.results24, go_sem, r2_w3]) rfl ⟨rfl, ?_⟩
      repeat' (first | with_reducible assumption | with_reducible exact AnyLater.refl _ | with_reducible apply AnyLater.setCell | with_reducible apply AnyLater.later | with_reducible apply AnyLater.drewN | with_reducible apply AnyLater.drew | with_reducible apply AnyLater.alloc | ((try simp only [World.size_alloc, World.size_setCell, World.size_drew]); (try dsimp only); omega))

/-! ### what is left of a rectangle -/
def aroundR (r m : Rc) : List Rc := [⟨r.x, r.y, r.a, m.y - r.y⟩, ⟨r.x, m.y, m.x - r.x, m.b⟩, ⟨m.x + m.a, m.y, r.x + r.a - m.x - m.a, m.b⟩, ⟨r.x, m.y + m.b, r.a, r.y + r.b - m.y - m.b⟩]
def lessR (r s : Rc) : List Rc := if r.any = true then (if (meetR r s).any = true then (aroundR r (meetR r s)).filter Rc.any else [r]) else []
def Rc.cells (r : Rc) : List Value := [.int .i64 r.x, .int .i64 r.y, .int .i64 r.a, .int .i64 r.b]
def rcs (l : List Rc) : List Value := l.flatMap Rc.cells
/-- a slice of these rectangles -/
def isRects (l : List Rc) (v : Value) (w : World) : Prop := w.ownsRow 0 23 4 v l.length (rcs l)
theorem isRects_stays {l : List Rc} {v : Value} {w w' : World} (h : AnyLater w w') (s : isRects l v w) : isRects l v w' := by
  refine ⟨s.1, ?_⟩
  rcases s.2 with h0 | ⟨g, cap, cur, h1, h2, h3, h4⟩
  · exact .inl h0
  · exact .inr ⟨g, cap, cur, h1, h2, any_own h h3, h4⟩
theorem rect_info : (Try.prog.info? 23).map (fun i => (i.zero, i.size, i.bytes)) = some (some (.agg #[.int .i64 0, .int .i64 0, .int .i64 0, .int .i64 0]), 4, 32) := by kernel_rfl
end Go.Proofs.Ytddmhonhajfehaa
