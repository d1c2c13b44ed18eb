/- rect: the least rectangle about two: by the program's function and by its twin. -/
import Derived.Test.YtddmhonhajfehaaRectD
import Derived.Test.YtddmhonhajfehaaRegion
namespace Go.Proofs.Ytddmhonhajfehaa
set_option linter.unusedSimpArgs false
set_option linter.unusedVariables false
set_option linter.unusedSectionVars false
open Go.RowKit

def joinR (r s : Rc) : Rc :=
  if r.any = true then (if s.any = true then ⟨loZ r.x s.x, loZ r.y s.y, hiZ (r.x + r.a) (s.x + s.a) - loZ r.x s.x, hiZ (r.y + r.b) (s.y + s.b) - loZ r.y s.y⟩ else r)
  else if s.any = true then s else Rc.zero
theorem join_any (x y a b x2 y2 a2 b2 : Int) (w : World) (hx : I64 x) (hy : I64 y) (ha : I64 a) (hb : I64 b) (hx2 : I64 x2) (hy2 : I64 y2) (ha2 : I64 a2) (hb2 : I64 b2) (p q r s : Int) (hm : joinR ⟨x, y, a, b⟩ ⟨x2, y2, a2, b2⟩ = ⟨p, q, r, s⟩) :
    Calls Try.prog 16 #[.agg #[.int .i64 x, .int .i64 y, .int .i64 a, .int .i64 b], .agg #[.int .i64 x2, .int .i64 y2, .int .i64 a2, .int .i64 b2]] w fun e w' => e = .returned (.agg #[.int .i64 p, .int .i64 q, .int .i64 r, .int .i64 s]) ∧ AnyLater w w' := by
  have HM := Lib.hid hm
  clear hm
  rcases g1 : anyB x y a b <;> rcases g2 : anyB x2 y2 a2 b2
  · have e1 : (!anyB x y a b) = true := by rw [g1]; rfl
    have e2 : (!anyB x2 y2 a2 b2) = true := by rw [g2]; rfl
    go_enter Try.func16, Try.ntmps16
    go_wp2_with fail
    first | refine settle_wp (fun wS => AnyLater w wS ∧ wS.heap[w.heap.size]? = some (.cells #[.int .i64 x, .int .i64 y, .int .i64 a, .int .i64 b] 23) ∧ wS.heap[w.heap.size + 1]? = some (.cells #[.int .i64 x2, .int .i64 y2, .int .i64 a2, .int .i64 b2] 23) ∧ wS.heap[w.heap.size + 1 + 1]? = some (.cells #[.int .i64 0, .int .i64 0, .int .i64 0, .int .i64 0] 23)) ?_ ?_ | refine settle_calls (fun wS => AnyLater w wS ∧ wS.heap[w.heap.size]? = some (.cells #[.int .i64 x, .int .i64 y, .int .i64 a, .int .i64 b] 23) ∧ wS.heap[w.heap.size + 1]? = some (.cells #[.int .i64 x2, .int .i64 y2, .int .i64 a2, .int .i64 b2] 23) ∧ wS.heap[w.heap.size + 1 + 1]? = some (.cells #[.int .i64 0, .int .i64 0, .int .i64 0, .int .i64 0] 23)) ?_ ?_
    · refine ⟨?_, ?_, ?_, ?_⟩
      · repeat' (first | with_reducible assumption | with_reducible exact AnyLater.refl _ | with_reducible apply AnyLater.setCell | with_reducible apply AnyLater.later | with_reducible apply AnyLater.drewN | with_reducible apply AnyLater.drew | with_reducible apply AnyLater.alloc | ((try simp only [World.size_alloc, World.size_setCell, World.size_drew]); (try dsimp only); omega))
      · ((repeat (first | with_reducible assumption | ((with_reducible apply heap_new); (try simp only [World.size_alloc, World.size_setCell, World.size_drew, World.heap_drewN]); done) | ((with_reducible apply heap_new); (try simp only [World.size_alloc, World.size_setCell, World.size_drew, World.heap_drewN]); omega) | (with_reducible refine heap_old (by (try simp only [World.size_alloc, World.size_setCell, World.size_drew, World.heap_drewN]); omega) ?_) | (with_reducible refine heap_drew ?_) | (with_reducible refine heap_far (by omega) ?_) | (with_reducible apply heap_at))); all_goals rfl)
      · ((repeat (first | with_reducible assumption | ((with_reducible apply heap_new); (try simp only [World.size_alloc, World.size_setCell, World.size_drew, World.heap_drewN]); done) | ((with_reducible apply heap_new); (try simp only [World.size_alloc, World.size_setCell, World.size_drew, World.heap_drewN]); omega) | (with_reducible refine heap_old (by (try simp only [World.size_alloc, World.size_setCell, World.size_drew, World.heap_drewN]); omega) ?_) | (with_reducible refine heap_drew ?_) | (with_reducible refine heap_far (by omega) ?_) | (with_reducible apply heap_at))); all_goals rfl)
      · ((repeat (first | with_reducible assumption | ((with_reducible apply heap_new); (try simp only [World.size_alloc, World.size_setCell, World.size_drew, World.heap_drewN]); done) | ((with_reducible apply heap_new); (try simp only [World.size_alloc, World.size_setCell, World.size_drew, World.heap_drewN]); omega) | (with_reducible refine heap_old (by (try simp only [World.size_alloc, World.size_setCell, World.size_drew, World.heap_drewN]); omega) ?_) | (with_reducible refine heap_drew ?_) | (with_reducible refine heap_far (by omega) ?_) | (with_reducible apply heap_at))); all_goals rfl)
    rintro w1 ⟨b_w1, s0_w1, s1_w1, s2_w1⟩
    have a_w1 := b_w1
    have r0_w1 := own_row s0_w1
    have f0_w1 := own_free s0_w1
    have l0_w1 := own_lt s0_w1
    have r1_w1 := own_row s1_w1
    have f1_w1 := own_free s1_w1
    have l1_w1 := own_lt s1_w1
    have r2_w1 := own_row s2_w1
    have f2_w1 := own_free s2_w1
    have l2_w1 := own_lt s2_w1
    have z_w1 := b_w1.below.size
    refine (empty_any _ _ _ _ _ _ (by assumption) (by omega) (by omega) (by omega) (by omega)).mono ?_
    rintro e w2 ⟨rfl, b_w2⟩
    have z_w2 := b_w2.below.size
    have a_w2 := a_w1.trans b_w2
    have s0_w2 := any_own b_w2 s0_w1
    have s1_w2 := any_own b_w2 s1_w1
    have s2_w2 := any_own b_w2 s2_w1
    have r0_w2 := own_row s0_w2
    have f0_w2 := own_free s0_w2
    have l0_w2 := own_lt s0_w2
    have r1_w2 := own_row s1_w2
    have f1_w2 := own_free s1_w2
    have l1_w2 := own_lt s1_w2
    have r2_w2 := own_row s2_w2
    have f2_w2 := own_free s2_w2
    have l2_w2 := own_lt s2_w2
    (try clear r0_w1); (try clear f0_w1)
    (try clear r1_w1); (try clear f1_w1)
    (try clear r2_w1); (try clear f2_w1)
    go_wp2_with fail
    refine (empty_any _ _ _ _ _ _ (by assumption) (by omega) (by omega) (by omega) (by omega)).mono ?_
    rintro e w3 ⟨rfl, b_w3⟩
    have z_w3 := b_w3.below.size
    have a_w3 := a_w2.trans b_w3
    have s0_w3 := any_own b_w3 s0_w2
    have s1_w3 := any_own b_w3 s1_w2
    have s2_w3 := any_own b_w3 s2_w2
    have r0_w3 := own_row s0_w3
    have f0_w3 := own_free s0_w3
    have l0_w3 := own_lt s0_w3
    have r1_w3 := own_row s1_w3
    have f1_w3 := own_free s1_w3
    have l1_w3 := own_lt s1_w3
    have r2_w3 := own_row s2_w3
    have f2_w3 := own_free s2_w3
    have l2_w3 := own_lt s2_w3
    (try clear r0_w2); (try clear f0_w2)
    (try clear r1_w2); (try clear f1_w2)
    (try clear r2_w2); (try clear f2_w2)
    go_wp2_with fail
    refine bodyPost_ret (v := .agg #[.int .i64 0, .int .i64 0, .int .i64 0, .int .i64 0]) (by simp [results, Try.results16, go_sem, r2_w3]) rfl ⟨?_, ?_⟩
    · have h := HM.out; unfold joinR Rc.any at h; simp [g1, g2, Rc.zero] at h; obtain ⟨rfl, rfl, rfl, rfl⟩ := h; rfl
    · repeat' (first | with_reducible assumption | with_reducible exact AnyLater.refl _ | with_reducible apply AnyLater.setCell | with_reducible apply AnyLater.later | with_reducible apply AnyLater.drewN | with_reducible apply AnyLater.drew | with_reducible apply AnyLater.alloc | ((try simp only [World.size_alloc, World.size_setCell, World.size_drew]); (try dsimp only); omega))
  · have e1 : (!anyB x y a b) = true := by rw [g1]; rfl
    have e2 : (!anyB x2 y2 a2 b2) = false := by rw [g2]; rfl
    go_enter Try.func16, Try.ntmps16
    go_wp2_with fail
    first | refine settle_wp (fun wS => AnyLater w wS ∧ wS.heap[w.heap.size]? = some (.cells #[.int .i64 x, .int .i64 y, .int .i64 a, .int .i64 b] 23) ∧ wS.heap[w.heap.size + 1]? = some (.cells #[.int .i64 x2, .int .i64 y2, .int .i64 a2, .int .i64 b2] 23) ∧ wS.heap[w.heap.size + 1 + 1]? = some (.cells #[.int .i64 0, .int .i64 0, .int .i64 0, .int .i64 0] 23)) ?_ ?_ | refine settle_calls (fun wS => AnyLater w wS ∧ wS.heap[w.heap.size]? = some (.cells #[.int .i64 x, .int .i64 y, .int .i64 a, .int .i64 b] 23) ∧ wS.heap[w.heap.size + 1]? = some (.cells #[.int .i64 x2, .int .i64 y2, .int .i64 a2, .int .i64 b2] 23) ∧ wS.heap[w.heap.size + 1 + 1]? = some (.cells #[.int .i64 0, .int .i64 0, .int .i64 0, .int .i64 0] 23)) ?_ ?_
    · refine ⟨?_, ?_, ?_, ?_⟩
      · repeat' (first | with_reducible assumption | with_reducible exact AnyLater.refl _ | with_reducible apply AnyLater.setCell | with_reducible apply AnyLater.later | with_reducible apply AnyLater.drewN | with_reducible apply AnyLater.drew | with_reducible apply AnyLater.alloc | ((try simp only [World.size_alloc, World.size_setCell, World.size_drew]); (try dsimp only); omega))
      · ((repeat (first | with_reducible assumption | ((with_reducible apply heap_new); (try simp only [World.size_alloc, World.size_setCell, World.size_drew, World.heap_drewN]); done) | ((with_reducible apply heap_new); (try simp only [World.size_alloc, World.size_setCell, World.size_drew, World.heap_drewN]); omega) | (with_reducible refine heap_old (by (try simp only [World.size_alloc, World.size_setCell, World.size_drew, World.heap_drewN]); omega) ?_) | (with_reducible refine heap_drew ?_) | (with_reducible refine heap_far (by omega) ?_) | (with_reducible apply heap_at))); all_goals rfl)
      · ((repeat (first | with_reducible assumption | ((with_reducible apply heap_new); (try simp only [World.size_alloc, World.size_setCell, World.size_drew, World.heap_drewN]); done) | ((with_reducible apply heap_new); (try simp only [World.size_alloc, World.size_setCell, World.size_drew, World.heap_drewN]); omega) | (with_reducible refine heap_old (by (try simp only [World.size_alloc, World.size_setCell, World.size_drew, World.heap_drewN]); omega) ?_) | (with_reducible refine heap_drew ?_) | (with_reducible refine heap_far (by omega) ?_) | (with_reducible apply heap_at))); all_goals rfl)
      · ((repeat (first | with_reducible assumption | ((with_reducible apply heap_new); (try simp only [World.size_alloc, World.size_setCell, World.size_drew, World.heap_drewN]); done) | ((with_reducible apply heap_new); (try simp only [World.size_alloc, World.size_setCell, World.size_drew, World.heap_drewN]); omega) | (with_reducible refine heap_old (by (try simp only [World.size_alloc, World.size_setCell, World.size_drew, World.heap_drewN]); omega) ?_) | (with_reducible refine heap_drew ?_) | (with_reducible refine heap_far (by omega) ?_) | (with_reducible apply heap_at))); all_goals rfl)
    rintro w1 ⟨b_w1, s0_w1, s1_w1, s2_w1⟩
    have a_w1 := b_w1
    have r0_w1 := own_row s0_w1
    have f0_w1 := own_free s0_w1
    have l0_w1 := own_lt s0_w1
    have r1_w1 := own_row s1_w1
    have f1_w1 := own_free s1_w1
    have l1_w1 := own_lt s1_w1
    have r2_w1 := own_row s2_w1
    have f2_w1 := own_free s2_w1
    have l2_w1 := own_lt s2_w1
    have z_w1 := b_w1.below.size
    refine (empty_any _ _ _ _ _ _ (by assumption) (by omega) (by omega) (by omega) (by omega)).mono ?_
    rintro e w2 ⟨rfl, b_w2⟩
    have z_w2 := b_w2.below.size
    have a_w2 := a_w1.trans b_w2
    have s0_w2 := any_own b_w2 s0_w1
    have s1_w2 := any_own b_w2 s1_w1
    have s2_w2 := any_own b_w2 s2_w1
    have r0_w2 := own_row s0_w2
    have f0_w2 := own_free s0_w2
    have l0_w2 := own_lt s0_w2
    have r1_w2 := own_row s1_w2
    have f1_w2 := own_free s1_w2
    have l1_w2 := own_lt s1_w2
    have r2_w2 := own_row s2_w2
    have f2_w2 := own_free s2_w2
    have l2_w2 := own_lt s2_w2
    (try clear r0_w1); (try clear f0_w1)
    (try clear r1_w1); (try clear f1_w1)
    (try clear r2_w1); (try clear f2_w1)
    go_wp2_with fail
    refine (empty_any _ _ _ _ _ _ (by assumption) (by omega) (by omega) (by omega) (by omega)).mono ?_
    rintro e w3 ⟨rfl, b_w3⟩
    have z_w3 := b_w3.below.size
    have a_w3 := a_w2.trans b_w3
    have s0_w3 := any_own b_w3 s0_w2
    have s1_w3 := any_own b_w3 s1_w2
    have s2_w3 := any_own b_w3 s2_w2
    have r0_w3 := own_row s0_w3
    have f0_w3 := own_free s0_w3
    have l0_w3 := own_lt s0_w3
    have r1_w3 := own_row s1_w3
    have f1_w3 := own_free s1_w3
    have l1_w3 := own_lt s1_w3
    have r2_w3 := own_row s2_w3
    have f2_w3 := own_free s2_w3
    have l2_w3 := own_lt s2_w3
    (try clear r0_w2); (try clear f0_w2)
    (try clear r1_w2); (try clear f1_w2)
    (try clear r2_w2); (try clear f2_w2)
    go_wp2_with fail
    refine (empty_any _ _ _ _ _ _ (by assumption) (by omega) (by omega) (by omega) (by omega)).mono ?_
    rintro e w4 ⟨rfl, b_w4⟩
    have z_w4 := b_w4.below.size
    have a_w4 := a_w3.trans b_w4
    have s0_w4 := any_own b_w4 s0_w3
    have s1_w4 := any_own b_w4 s1_w3
    have s2_w4 := any_own b_w4 s2_w3
    have r0_w4 := own_row s0_w4
    have f0_w4 := own_free s0_w4
    have l0_w4 := own_lt s0_w4
    have r1_w4 := own_row s1_w4
    have f1_w4 := own_free s1_w4
    have l1_w4 := own_lt s1_w4
    have r2_w4 := own_row s2_w4
    have f2_w4 := own_free s2_w4
    have l2_w4 := own_lt s2_w4
    (try clear r0_w3); (try clear f0_w3)
    (try clear r1_w3); (try clear f1_w3)
    (try clear r2_w3); (try clear f2_w3)
    go_wp2_with fail
    refine bodyPost_ret (v := .agg #[.int .i64 x2, .int .i64 y2, .int .i64 a2, .int .i64 b2]) (by simp [results, Try.results16, go_sem, r2_w4]) rfl ⟨?_, ?_⟩
    · have h := HM.out; unfold joinR Rc.any at h; simp [g1, g2, Rc.zero] at h; obtain ⟨rfl, rfl, rfl, rfl⟩ := h; rfl
    · repeat' (first | with_reducible assumption | with_reducible exact AnyLater.refl _ | with_reducible apply AnyLater.setCell | with_reducible apply AnyLater.later | with_reducible apply AnyLater.drewN | with_reducible apply AnyLater.drew | with_reducible apply AnyLater.alloc | ((try simp only [World.size_alloc, World.size_setCell, World.size_drew]); (try dsimp only); omega))
  · have e1 : (!anyB x y a b) = false := by rw [g1]; rfl
    have e2 : (!anyB x2 y2 a2 b2) = true := by rw [g2]; rfl
    go_enter Try.func16, Try.ntmps16
    go_wp2_with fail
    first | refine settle_wp (fun wS => AnyLater w wS ∧ wS.heap[w.heap.size]? = some (.cells #[.int .i64 x, .int .i64 y, .int .i64 a, .int .i64 b] 23) ∧ wS.heap[w.heap.size + 1]? = some (.cells #[.int .i64 x2, .int .i64 y2, .int .i64 a2, .int .i64 b2] 23) ∧ wS.heap[w.heap.size + 1 + 1]? = some (.cells #[.int .i64 0, .int .i64 0, .int .i64 0, .int .i64 0] 23)) ?_ ?_ | refine settle_calls (fun wS => AnyLater w wS ∧ wS.heap[w.heap.size]? = some (.cells #[.int .i64 x, .int .i64 y, .int .i64 a, .int .i64 b] 23) ∧ wS.heap[w.heap.size + 1]? = some (.cells #[.int .i64 x2, .int .i64 y2, .int .i64 a2, .int .i64 b2] 23) ∧ wS.heap[w.heap.size + 1 + 1]? = some (.cells #[.int .i64 0, .int .i64 0, .int .i64 0, .int .i64 0] 23)) ?_ ?_
    · refine ⟨?_, ?_, ?_, ?_⟩
      · repeat' (first | with_reducible assumption | with_reducible exact AnyLater.refl _ | with_reducible apply AnyLater.setCell | with_reducible apply AnyLater.later | with_reducible apply AnyLater.drewN | with_reducible apply AnyLater.drew | with_reducible apply AnyLater.alloc | ((try simp only [World.size_alloc, World.size_setCell, World.size_drew]); (try dsimp only); omega))
      · ((repeat (first | with_reducible assumption | ((with_reducible apply heap_new); (try simp only [World.size_alloc, World.size_setCell, World.size_drew, World.heap_drewN]); done) | ((with_reducible apply heap_new); (try simp only [World.size_alloc, World.size_setCell, World.size_drew, World.heap_drewN]); omega) | (with_reducible refine heap_old (by (try simp only [World.size_alloc, World.size_setCell, World.size_drew, World.heap_drewN]); omega) ?_) | (with_reducible refine heap_drew ?_) | (with_reducible refine heap_far (by omega) ?_) | (with_reducible apply heap_at))); all_goals rfl)
      · ((repeat (first | with_reducible assumption | ((with_reducible apply heap_new); (try simp only [World.size_alloc, World.size_setCell, World.size_drew, World.heap_drewN]); done) | ((with_reducible apply heap_new); (try simp only [World.size_alloc, World.size_setCell, World.size_drew, World.heap_drewN]); omega) | (with_reducible refine heap_old (by (try simp only [World.size_alloc, World.size_setCell, World.size_drew, World.heap_drewN]); omega) ?_) | (with_reducible refine heap_drew ?_) | (with_reducible refine heap_far (by omega) ?_) | (with_reducible apply heap_at))); all_goals rfl)
      · ((repeat (first | with_reducible assumption | ((with_reducible apply heap_new); (try simp only [World.size_alloc, World.size_setCell, World.size_drew, World.heap_drewN]); done) | ((with_reducible apply heap_new); (try simp only [World.size_alloc, World.size_setCell, World.size_drew, World.heap_drewN]); omega) | (with_reducible refine heap_old (by (try simp only [World.size_alloc, World.size_setCell, World.size_drew, World.heap_drewN]); omega) ?_) | (with_reducible refine heap_drew ?_) | (with_reducible refine heap_far (by omega) ?_) | (with_reducible apply heap_at))); all_goals rfl)
    rintro w1 ⟨b_w1, s0_w1, s1_w1, s2_w1⟩
    have a_w1 := b_w1
    have r0_w1 := own_row s0_w1
    have f0_w1 := own_free s0_w1
    have l0_w1 := own_lt s0_w1
    have r1_w1 := own_row s1_w1
    have f1_w1 := own_free s1_w1
    have l1_w1 := own_lt s1_w1
    have r2_w1 := own_row s2_w1
    have f2_w1 := own_free s2_w1
    have l2_w1 := own_lt s2_w1
    have z_w1 := b_w1.below.size
    refine (empty_any _ _ _ _ _ _ (by assumption) (by omega) (by omega) (by omega) (by omega)).mono ?_
    rintro e w2 ⟨rfl, b_w2⟩
    have z_w2 := b_w2.below.size
    have a_w2 := a_w1.trans b_w2
    have s0_w2 := any_own b_w2 s0_w1
    have s1_w2 := any_own b_w2 s1_w1
    have s2_w2 := any_own b_w2 s2_w1
    have r0_w2 := own_row s0_w2
    have f0_w2 := own_free s0_w2
    have l0_w2 := own_lt s0_w2
    have r1_w2 := own_row s1_w2
    have f1_w2 := own_free s1_w2
    have l1_w2 := own_lt s1_w2
    have r2_w2 := own_row s2_w2
    have f2_w2 := own_free s2_w2
    have l2_w2 := own_lt s2_w2
    (try clear r0_w1); (try clear f0_w1)
    (try clear r1_w1); (try clear f1_w1)
    (try clear r2_w1); (try clear f2_w1)
    go_wp2_with fail
    refine (empty_any _ _ _ _ _ _ (by assumption) (by omega) (by omega) (by omega) (by omega)).mono ?_
    rintro e w3 ⟨rfl, b_w3⟩
    have z_w3 := b_w3.below.size
    have a_w3 := a_w2.trans b_w3
    have s0_w3 := any_own b_w3 s0_w2
    have s1_w3 := any_own b_w3 s1_w2
    have s2_w3 := any_own b_w3 s2_w2
    have r0_w3 := own_row s0_w3
    have f0_w3 := own_free s0_w3
    have l0_w3 := own_lt s0_w3
    have r1_w3 := own_row s1_w3
    have f1_w3 := own_free s1_w3
    have l1_w3 := own_lt s1_w3
    have r2_w3 := own_row s2_w3
    have f2_w3 := own_free s2_w3
    have l2_w3 := own_lt s2_w3
    (try clear r0_w2); (try clear f0_w2)
    (try clear r1_w2); (try clear f1_w2)
    (try clear r2_w2); (try clear f2_w2)
    go_wp2_with fail
    refine (empty_any _ _ _ _ _ _ (by assumption) (by omega) (by omega) (by omega) (by omega)).mono ?_
    rintro e w4 ⟨rfl, b_w4⟩
    have z_w4 := b_w4.below.size
    have a_w4 := a_w3.trans b_w4
    have s0_w4 := any_own b_w4 s0_w3
    have s1_w4 := any_own b_w4 s1_w3
    have s2_w4 := any_own b_w4 s2_w3
    have r0_w4 := own_row s0_w4
    have f0_w4 := own_free s0_w4
    have l0_w4 := own_lt s0_w4
    have r1_w4 := own_row s1_w4
    have f1_w4 := own_free s1_w4
    have l1_w4 := own_lt s1_w4
    have r2_w4 := own_row s2_w4
    have f2_w4 := own_free s2_w4
    have l2_w4 := own_lt s2_w4
    (try clear r0_w3); (try clear f0_w3)
    (try clear r1_w3); (try clear f1_w3)
    (try clear r2_w3); (try clear f2_w3)
    go_wp2_with fail
    refine bodyPost_ret (v := .agg #[.int .i64 x, .int .i64 y, .int .i64 a, .int .i64 b]) (by simp [results, Try.results16, go_sem, r2_w4]) rfl ⟨?_, ?_⟩
    · have h := HM.out; unfold joinR Rc.any at h; simp [g1, g2, Rc.zero] at h; obtain ⟨rfl, rfl, rfl, rfl⟩ := h; rfl
    · repeat' (first | with_reducible assumption | with_reducible exact AnyLater.refl _ | with_reducible apply AnyLater.setCell | with_reducible apply AnyLater.later | with_reducible apply AnyLater.drewN | with_reducible apply AnyLater.drew | with_reducible apply AnyLater.alloc | ((try simp only [World.size_alloc, World.size_setCell, World.size_drew]); (try dsimp only); omega))
  · have e1 : (!anyB x y a b) = false := by rw [g1]; rfl
    have e2 : (!anyB x2 y2 a2 b2) = false := by rw [g2]; rfl
    obtain ⟨i1, i2, i3, i4, i5, i6, i7, i8⟩ := anyB_in g1
    obtain ⟨j1, j2, j3, j4, j5, j6, j7, j8⟩ := anyB_in g2
    obtain ⟨cx, e5⟩ : ∃ c, loZ x x2 = c := ⟨_, rfl⟩
    obtain ⟨cy, e6⟩ : ∃ c, loZ y y2 = c := ⟨_, rfl⟩
    obtain ⟨lx, e7⟩ : ∃ c, hiZ (x + a) (x2 + a2) = c := ⟨_, rfl⟩
    obtain ⟨ly, e8⟩ : ∃ c, hiZ (y + b) (y2 + b2) = c := ⟨_, rfl⟩
    have k1 := loZ_in x x2
    have k2 := loZ_in y y2
    have k3 := hiZ_in (x + a) (x2 + a2)
    have k4 := hiZ_in (y + b) (y2 + b2)
    rw [e5] at k1; rw [e6] at k2; rw [e7] at k3; rw [e8] at k4
    have hmx := run_maxZ (P := Try.prog)
    have hmn := run_minZ (P := Try.prog)
    go_enter Try.func16, Try.ntmps16
    go_wp2_with fail
    first | refine settle_wp (fun wS => AnyLater w wS ∧ wS.heap[w.heap.size]? = some (.cells #[.int .i64 x, .int .i64 y, .int .i64 a, .int .i64 b] 23) ∧ wS.heap[w.heap.size + 1]? = some (.cells #[.int .i64 x2, .int .i64 y2, .int .i64 a2, .int .i64 b2] 23) ∧ wS.heap[w.heap.size + 1 + 1]? = some (.cells #[.int .i64 0, .int .i64 0, .int .i64 0, .int .i64 0] 23)) ?_ ?_ | refine settle_calls (fun wS => AnyLater w wS ∧ wS.heap[w.heap.size]? = some (.cells #[.int .i64 x, .int .i64 y, .int .i64 a, .int .i64 b] 23) ∧ wS.heap[w.heap.size + 1]? = some (.cells #[.int .i64 x2, .int .i64 y2, .int .i64 a2, .int .i64 b2] 23) ∧ wS.heap[w.heap.size + 1 + 1]? = some (.cells #[.int .i64 0, .int .i64 0, .int .i64 0, .int .i64 0] 23)) ?_ ?_
    · refine ⟨?_, ?_, ?_, ?_⟩
      · repeat' (first | with_reducible assumption | with_reducible exact AnyLater.refl _ | with_reducible apply AnyLater.setCell | with_reducible apply AnyLater.later | with_reducible apply AnyLater.drewN | with_reducible apply AnyLater.drew | with_reducible apply AnyLater.alloc | ((try simp only [World.size_alloc, World.size_setCell, World.size_drew]); (try dsimp only); omega))
      · ((repeat (first | with_reducible assumption | ((with_reducible apply heap_new); (try simp only [World.size_alloc, World.size_setCell, World.size_drew, World.heap_drewN]); done) | ((with_reducible apply heap_new); (try simp only [World.size_alloc, World.size_setCell, World.size_drew, World.heap_drewN]); omega) | (with_reducible refine heap_old (by (try simp only [World.size_alloc, World.size_setCell, World.size_drew, World.heap_drewN]); omega) ?_) | (with_reducible refine heap_drew ?_) | (with_reducible refine heap_far (by omega) ?_) | (with_reducible apply heap_at))); all_goals rfl)
      · ((repeat (first | with_reducible assumption | ((with_reducible apply heap_new); (try simp only [World.size_alloc, World.size_setCell, World.size_drew, World.heap_drewN]); done) | ((with_reducible apply heap_new); (try simp only [World.size_alloc, World.size_setCell, World.size_drew, World.heap_drewN]); omega) | (with_reducible refine heap_old (by (try simp only [World.size_alloc, World.size_setCell, World.size_drew, World.heap_drewN]); omega) ?_) | (with_reducible refine heap_drew ?_) | (with_reducible refine heap_far (by omega) ?_) | (with_reducible apply heap_at))); all_goals rfl)
      · ((repeat (first | with_reducible assumption | ((with_reducible apply heap_new); (try simp only [World.size_alloc, World.size_setCell, World.size_drew, World.heap_drewN]); done) | ((with_reducible apply heap_new); (try simp only [World.size_alloc, World.size_setCell, World.size_drew, World.heap_drewN]); omega) | (with_reducible refine heap_old (by (try simp only [World.size_alloc, World.size_setCell, World.size_drew, World.heap_drewN]); omega) ?_) | (with_reducible refine heap_drew ?_) | (with_reducible refine heap_far (by omega) ?_) | (with_reducible apply heap_at))); all_goals rfl)
    rintro w1 ⟨b_w1, s0_w1, s1_w1, s2_w1⟩
    have a_w1 := b_w1
    have r0_w1 := own_row s0_w1
    have f0_w1 := own_free s0_w1
    have l0_w1 := own_lt s0_w1
    have r1_w1 := own_row s1_w1
    have f1_w1 := own_free s1_w1
    have l1_w1 := own_lt s1_w1
    have r2_w1 := own_row s2_w1
    have f2_w1 := own_free s2_w1
    have l2_w1 := own_lt s2_w1
    have z_w1 := b_w1.below.size
    refine (empty_any _ _ _ _ _ _ (by assumption) (by omega) (by omega) (by omega) (by omega)).mono ?_
    rintro e w2 ⟨rfl, b_w2⟩
    have z_w2 := b_w2.below.size
    have a_w2 := a_w1.trans b_w2
    have s0_w2 := any_own b_w2 s0_w1
    have s1_w2 := any_own b_w2 s1_w1
    have s2_w2 := any_own b_w2 s2_w1
    have r0_w2 := own_row s0_w2
    have f0_w2 := own_free s0_w2
    have l0_w2 := own_lt s0_w2
    have r1_w2 := own_row s1_w2
    have f1_w2 := own_free s1_w2
    have l1_w2 := own_lt s1_w2
    have r2_w2 := own_row s2_w2
    have f2_w2 := own_free s2_w2
    have l2_w2 := own_lt s2_w2
    (try clear r0_w1); (try clear f0_w1)
    (try clear r1_w1); (try clear f1_w1)
    (try clear r2_w1); (try clear f2_w1)
    go_wp2_with fail
    refine (empty_any _ _ _ _ _ _ (by assumption) (by omega) (by omega) (by omega) (by omega)).mono ?_
    rintro e w3 ⟨rfl, b_w3⟩
    have z_w3 := b_w3.below.size
    have a_w3 := a_w2.trans b_w3
    have s0_w3 := any_own b_w3 s0_w2
    have s1_w3 := any_own b_w3 s1_w2
    have s2_w3 := any_own b_w3 s2_w2
    have r0_w3 := own_row s0_w3
    have f0_w3 := own_free s0_w3
    have l0_w3 := own_lt s0_w3
    have r1_w3 := own_row s1_w3
    have f1_w3 := own_free s1_w3
    have l1_w3 := own_lt s1_w3
    have r2_w3 := own_row s2_w3
    have f2_w3 := own_free s2_w3
    have l2_w3 := own_lt s2_w3
    (try clear r0_w2); (try clear f0_w2)
    (try clear r1_w2); (try clear f1_w2)
    (try clear r2_w2); (try clear f2_w2)
    go_wp2_with fail
    refine (empty_any _ _ _ _ _ _ (by assumption) (by omega) (by omega) (by omega) (by omega)).mono ?_
    rintro e w4 ⟨rfl, b_w4⟩
    have z_w4 := b_w4.below.size
    have a_w4 := a_w3.trans b_w4
    have s0_w4 := any_own b_w4 s0_w3
    have s1_w4 := any_own b_w4 s1_w3
    have s2_w4 := any_own b_w4 s2_w3
    have r0_w4 := own_row s0_w4
    have f0_w4 := own_free s0_w4
    have l0_w4 := own_lt s0_w4
    have r1_w4 := own_row s1_w4
    have f1_w4 := own_free s1_w4
    have l1_w4 := own_lt s1_w4
    have r2_w4 := own_row s2_w4
    have f2_w4 := own_free s2_w4
    have l2_w4 := own_lt s2_w4
    (try clear r0_w3); (try clear f0_w3)
    (try clear r1_w3); (try clear f1_w3)
    (try clear r2_w3); (try clear f2_w3)
    go_wp2_with fail
    refine (between_any _ _ _ _ _ (by omega) (by omega) cx cy (lx - cx) (ly - cy) (by omega) (by omega) (by omega) (by omega)).mono ?_
    rintro e w5 ⟨rfl, b_w5⟩
    have z_w5 := b_w5.below.size
    have a_w5 := a_w4.trans b_w5
    have s0_w5 := any_own b_w5 s0_w4
    have s1_w5 := any_own b_w5 s1_w4
    have s2_w5 := any_own b_w5 s2_w4
    have r0_w5 := own_row s0_w5
    have f0_w5 := own_free s0_w5
    have l0_w5 := own_lt s0_w5
    have r1_w5 := own_row s1_w5
    have f1_w5 := own_free s1_w5
    have l1_w5 := own_lt s1_w5
    have r2_w5 := own_row s2_w5
    have f2_w5 := own_free s2_w5
    have l2_w5 := own_lt s2_w5
    (try clear r0_w4); (try clear f0_w4)
    (try clear r1_w4); (try clear f1_w4)
    (try clear r2_w4); (try clear f2_w4)
    go_wp2_with fail
    refine bodyPost_ret (v := .agg #[.int .i64 cx, .int .i64 cy, .int .i64 (lx - cx), .int .i64 (ly - cy)]) (by simp [results, Try.results16, go_sem, r2_w5]) rfl ⟨?_, ?_⟩
    · have h := HM.out; unfold joinR Rc.any at h; simp [g1, g2, Rc.zero, e5, e6, e7, e8] at h; obtain ⟨rfl, rfl, rfl, rfl⟩ := h; rfl
    · repeat' (first | with_reducible assumption | with_reducible exact AnyLater.refl _ | with_reducible apply AnyLater.setCell | with_reducible apply AnyLater.later | with_reducible apply AnyLater.drewN | with_reducible apply AnyLater.drew | with_reducible apply AnyLater.alloc | ((try simp only [World.size_alloc, World.size_setCell, World.size_drew]); (try dsimp only); omega))
theorem refJoin_any (x y a b x2 y2 a2 b2 : Int) (w : World) (hx : I64 x) (hy : I64 y) (ha : I64 a) (hb : I64 b) (hx2 : I64 x2) (hy2 : I64 y2) (ha2 : I64 a2) (hb2 : I64 b2) (p q r s : Int) (hm : joinR ⟨x, y, a, b⟩ ⟨x2, y2, a2, b2⟩ = ⟨p, q, r, s⟩) :
    Calls Try.prog 18 #[.agg #[.int .i64 x, .int .i64 y, .int .i64 a, .int .i64 b], .agg #[.int .i64 x2, .int .i64 y2, .int .i64 a2, .int .i64 b2]] w fun e w' => e = .returned (.agg #[.int .i64 p, .int .i64 q, .int .i64 r, .int .i64 s]) ∧ AnyLater w w' := by
  have HM := Lib.hid hm
  clear hm
  rcases g1 : anyB x y a b <;> rcases g2 : anyB x2 y2 a2 b2
  ·
    go_enter Try.func18, Try.ntmps18
    go_wp2_with fail
    first | refine settle_wp (fun wS => AnyLater w wS ∧ wS.heap[w.heap.size]? = some (.cells #[.int .i64 x, .int .i64 y, .int .i64 a, .int .i64 b] 23) ∧ wS.heap[w.heap.size + 1]? = some (.cells #[.int .i64 x2, .int .i64 y2, .int .i64 a2, .int .i64 b2] 23) ∧ wS.heap[w.heap.size + 1 + 1]? = some (.cells #[.int .i64 0, .int .i64 0, .int .i64 0, .int .i64 0] 23)) ?_ ?_ | refine settle_calls (fun wS => AnyLater w wS ∧ wS.heap[w.heap.size]? = some (.cells #[.int .i64 x, .int .i64 y, .int .i64 a, .int .i64 b] 23) ∧ wS.heap[w.heap.size + 1]? = some (.cells #[.int .i64 x2, .int .i64 y2, .int .i64 a2, .int .i64 b2] 23) ∧ wS.heap[w.heap.size + 1 + 1]? = some (.cells #[.int .i64 0, .int .i64 0, .int .i64 0, .int .i64 0] 23)) ?_ ?_
    · refine ⟨?_, ?_, ?_, ?_⟩
      · repeat' (first | with_reducible assumption | with_reducible exact AnyLater.refl _ | with_reducible apply AnyLater.setCell | with_reducible apply AnyLater.later | with_reducible apply AnyLater.drewN | with_reducible apply AnyLater.drew | with_reducible apply AnyLater.alloc | ((try simp only [World.size_alloc, World.size_setCell, World.size_drew]); (try dsimp only); omega))
      · ((repeat (first | with_reducible assumption | ((with_reducible apply heap_new); (try simp only [World.size_alloc, World.size_setCell, World.size_drew, World.heap_drewN]); done) | ((with_reducible apply heap_new); (try simp only [World.size_alloc, World.size_setCell, World.size_drew, World.heap_drewN]); omega) | (with_reducible refine heap_old (by (try simp only [World.size_alloc, World.size_setCell, World.size_drew, World.heap_drewN]); omega) ?_) | (with_reducible refine heap_drew ?_) | (with_reducible refine heap_far (by omega) ?_) | (with_reducible apply heap_at))); all_goals rfl)
      · ((repeat (first | with_reducible assumption | ((with_reducible apply heap_new); (try simp only [World.size_alloc, World.size_setCell, World.size_drew, World.heap_drewN]); done) | ((with_reducible apply heap_new); (try simp only [World.size_alloc, World.size_setCell, World.size_drew, World.heap_drewN]); omega) | (with_reducible refine heap_old (by (try simp only [World.size_alloc, World.size_setCell, World.size_drew, World.heap_drewN]); omega) ?_) | (with_reducible refine heap_drew ?_) | (with_reducible refine heap_far (by omega) ?_) | (with_reducible apply heap_at))); all_goals rfl)
      · ((repeat (first | with_reducible assumption | ((with_reducible apply heap_new); (try simp only [World.size_alloc, World.size_setCell, World.size_drew, World.heap_drewN]); done) | ((with_reducible apply heap_new); (try simp only [World.size_alloc, World.size_setCell, World.size_drew, World.heap_drewN]); omega) | (with_reducible refine heap_old (by (try simp only [World.size_alloc, World.size_setCell, World.size_drew, World.heap_drewN]); omega) ?_) | (with_reducible refine heap_drew ?_) | (with_reducible refine heap_far (by omega) ?_) | (with_reducible apply heap_at))); all_goals rfl)
    rintro w1 ⟨b_w1, s0_w1, s1_w1, s2_w1⟩
    have a_w1 := b_w1
    have r0_w1 := own_row s0_w1
    have f0_w1 := own_free s0_w1
    have l0_w1 := own_lt s0_w1
    have r1_w1 := own_row s1_w1
    have f1_w1 := own_free s1_w1
    have l1_w1 := own_lt s1_w1
    have r2_w1 := own_row s2_w1
    have f2_w1 := own_free s2_w1
    have l2_w1 := own_lt s2_w1
    have z_w1 := b_w1.below.size
    refine (any_any _ _ _ _ _ _ (by assumption) (by omega) (by omega) (by omega) (by omega)).mono ?_
    rintro e w2 ⟨rfl, b_w2⟩
    have z_w2 := b_w2.below.size
    have a_w2 := a_w1.trans b_w2
    have s0_w2 := any_own b_w2 s0_w1
    have s1_w2 := any_own b_w2 s1_w1
    have s2_w2 := any_own b_w2 s2_w1
    have r0_w2 := own_row s0_w2
    have f0_w2 := own_free s0_w2
    have l0_w2 := own_lt s0_w2
    have r1_w2 := own_row s1_w2
    have f1_w2 := own_free s1_w2
    have l1_w2 := own_lt s1_w2
    have r2_w2 := own_row s2_w2
    have f2_w2 := own_free s2_w2
    have l2_w2 := own_lt s2_w2
    (try clear r0_w1); (try clear f0_w1)
    (try clear r1_w1); (try clear f1_w1)
    (try clear r2_w1); (try clear f2_w1)
    go_wp2_with fail
    refine (any_any _ _ _ _ _ _ (by assumption) (by omega) (by omega) (by omega) (by omega)).mono ?_
    rintro e w3 ⟨rfl, b_w3⟩
    have z_w3 := b_w3.below.size
    have a_w3 := a_w2.trans b_w3
    have s0_w3 := any_own b_w3 s0_w2
    have s1_w3 := any_own b_w3 s1_w2
    have s2_w3 := any_own b_w3 s2_w2
    have r0_w3 := own_row s0_w3
    have f0_w3 := own_free s0_w3
    have l0_w3 := own_lt s0_w3
    have r1_w3 := own_row s1_w3
    have f1_w3 := own_free s1_w3
    have l1_w3 := own_lt s1_w3
    have r2_w3 := own_row s2_w3
    have f2_w3 := own_free s2_w3
    have l2_w3 := own_lt s2_w3
    (try clear r0_w2); (try clear f0_w2)
    (try clear r1_w2); (try clear f1_w2)
    (try clear r2_w2); (try clear f2_w2)
    go_wp2_with fail
    refine bodyPost_ret (v := .agg #[.int .i64 0, .int .i64 0, .int .i64 0, .int .i64 0]) (by simp [results, Try.results18, go_sem, r2_w3]) rfl ⟨?_, ?_⟩
    · have h := HM.out; unfold joinR Rc.any at h; simp [g1, g2, Rc.zero] at h; obtain ⟨rfl, rfl, rfl, rfl⟩ := h; rfl
    · repeat' (first | with_reducible assumption | with_reducible exact AnyLater.refl _ | with_reducible apply AnyLater.setCell | with_reducible apply AnyLater.later | with_reducible apply AnyLater.drewN | with_reducible apply AnyLater.drew | with_reducible apply AnyLater.alloc | ((try simp only [World.size_alloc, World.size_setCell, World.size_drew]); (try dsimp only); omega))
  ·
    go_enter Try.func18, Try.ntmps18
    go_wp2_with fail
    first | refine settle_wp (fun wS => AnyLater w wS ∧ wS.heap[w.heap.size]? = some (.cells #[.int .i64 x, .int .i64 y, .int .i64 a, .int .i64 b] 23) ∧ wS.heap[w.heap.size + 1]? = some (.cells #[.int .i64 x2, .int .i64 y2, .int .i64 a2, .int .i64 b2] 23) ∧ wS.heap[w.heap.size + 1 + 1]? = some (.cells #[.int .i64 0, .int .i64 0, .int .i64 0, .int .i64 0] 23)) ?_ ?_ | refine settle_calls (fun wS => AnyLater w wS ∧ wS.heap[w.heap.size]? = some (.cells #[.int .i64 x, .int .i64 y, .int .i64 a, .int .i64 b] 23) ∧ wS.heap[w.heap.size + 1]? = some (.cells #[.int .i64 x2, .int .i64 y2, .int .i64 a2, .int .i64 b2] 23) ∧ wS.heap[w.heap.size + 1 + 1]? = some (.cells #[.int .i64 0, .int .i64 0, .int .i64 0, .int .i64 0] 23)) ?_ ?_
    · refine ⟨?_, ?_, ?_, ?_⟩
      · repeat' (first | with_reducible assumption | with_reducible exact AnyLater.refl _ | with_reducible apply AnyLater.setCell | with_reducible apply AnyLater.later | with_reducible apply AnyLater.drewN | with_reducible apply AnyLater.drew | with_reducible apply AnyLater.alloc | ((try simp only [World.size_alloc, World.size_setCell, World.size_drew]); (try dsimp only); omega))
      · ((repeat (first | with_reducible assumption | ((with_reducible apply heap_new); (try simp only [World.size_alloc, World.size_setCell, World.size_drew, World.heap_drewN]); done) | ((with_reducible apply heap_new); (try simp only [World.size_alloc, World.size_setCell, World.size_drew, World.heap_drewN]); omega) | (with_reducible refine heap_old (by (try simp only [World.size_alloc, World.size_setCell, World.size_drew, World.heap_drewN]); omega) ?_) | (with_reducible refine heap_drew ?_) | (with_reducible refine heap_far (by omega) ?_) | (with_reducible apply heap_at))); all_goals rfl)
      · ((repeat (first | with_reducible assumption | ((with_reducible apply heap_new); (try simp only [World.size_alloc, World.size_setCell, World.size_drew, World.heap_drewN]); done) | ((with_reducible apply heap_new); (try simp only [World.size_alloc, World.size_setCell, World.size_drew, World.heap_drewN]); omega) | (with_reducible refine heap_old (by (try simp only [World.size_alloc, World.size_setCell, World.size_drew, World.heap_drewN]); omega) ?_) | (with_reducible refine heap_drew ?_) | (with_reducible refine heap_far (by omega) ?_) | (with_reducible apply heap_at))); all_goals rfl)
      · ((repeat (first | with_reducible assumption | ((with_reducible apply heap_new); (try simp only [World.size_alloc, World.size_setCell, World.size_drew, World.heap_drewN]); done) | ((with_reducible apply heap_new); (try simp only [World.size_alloc, World.size_setCell, World.size_drew, World.heap_drewN]); omega) | (with_reducible refine heap_old (by (try simp only [World.size_alloc, World.size_setCell, World.size_drew, World.heap_drewN]); omega) ?_) | (with_reducible refine heap_drew ?_) | (with_reducible refine heap_far (by omega) ?_) | (with_reducible apply heap_at))); all_goals rfl)
    rintro w1 ⟨b_w1, s0_w1, s1_w1, s2_w1⟩
    have a_w1 := b_w1
    have r0_w1 := own_row s0_w1
    have f0_w1 := own_free s0_w1
    have l0_w1 := own_lt s0_w1
    have r1_w1 := own_row s1_w1
    have f1_w1 := own_free s1_w1
    have l1_w1 := own_lt s1_w1
    have r2_w1 := own_row s2_w1
    have f2_w1 := own_free s2_w1
    have l2_w1 := own_lt s2_w1
    have z_w1 := b_w1.below.size
    refine (any_any _ _ _ _ _ _ (by assumption) (by omega) (by omega) (by omega) (by omega)).mono ?_
    rintro e w2 ⟨rfl, b_w2⟩
    have z_w2 := b_w2.below.size
    have a_w2 := a_w1.trans b_w2
    have s0_w2 := any_own b_w2 s0_w1
    have s1_w2 := any_own b_w2 s1_w1
    have s2_w2 := any_own b_w2 s2_w1
    have r0_w2 := own_row s0_w2
    have f0_w2 := own_free s0_w2
    have l0_w2 := own_lt s0_w2
    have r1_w2 := own_row s1_w2
    have f1_w2 := own_free s1_w2
    have l1_w2 := own_lt s1_w2
    have r2_w2 := own_row s2_w2
    have f2_w2 := own_free s2_w2
    have l2_w2 := own_lt s2_w2
    (try clear r0_w1); (try clear f0_w1)
    (try clear r1_w1); (try clear f1_w1)
    (try clear r2_w1); (try clear f2_w1)
    go_wp2_with fail
    refine (any_any _ _ _ _ _ _ (by assumption) (by omega) (by omega) (by omega) (by omega)).mono ?_
    rintro e w3 ⟨rfl, b_w3⟩
    have z_w3 := b_w3.below.size
    have a_w3 := a_w2.trans b_w3
    have s0_w3 := any_own b_w3 s0_w2
    have s1_w3 := any_own b_w3 s1_w2
    have s2_w3 := any_own b_w3 s2_w2
    have r0_w3 := own_row s0_w3
    have f0_w3 := own_free s0_w3
    have l0_w3 := own_lt s0_w3
    have r1_w3 := own_row s1_w3
    have f1_w3 := own_free s1_w3
    have l1_w3 := own_lt s1_w3
    have r2_w3 := own_row s2_w3
    have f2_w3 := own_free s2_w3
    have l2_w3 := own_lt s2_w3
    (try clear r0_w2); (try clear f0_w2)
    (try clear r1_w2); (try clear f1_w2)
    (try clear r2_w2); (try clear f2_w2)
    go_wp2_with fail
    refine (any_any _ _ _ _ _ _ (by assumption) (by omega) (by omega) (by omega) (by omega)).mono ?_
    rintro e w4 ⟨rfl, b_w4⟩
    have z_w4 := b_w4.below.size
    have a_w4 := a_w3.trans b_w4
    have s0_w4 := any_own b_w4 s0_w3
    have s1_w4 := any_own b_w4 s1_w3
    have s2_w4 := any_own b_w4 s2_w3
    have r0_w4 := own_row s0_w4
    have f0_w4 := own_free s0_w4
    have l0_w4 := own_lt s0_w4
    have r1_w4 := own_row s1_w4
    have f1_w4 := own_free s1_w4
    have l1_w4 := own_lt s1_w4
    have r2_w4 := own_row s2_w4
    have f2_w4 := own_free s2_w4
    have l2_w4 := own_lt s2_w4
    (try clear r0_w3); (try clear f0_w3)
    (try clear r1_w3); (try clear f1_w3)
    (try clear r2_w3); (try clear f2_w3)
    go_wp2_with fail
    refine bodyPost_ret (v := .agg #[.int .i64 x2, .int .i64 y2, .int .i64 a2, .int .i64 b2]) (by simp [results, Try.results18, go_sem, r2_w4]) rfl ⟨?_, ?_⟩
    · have h := HM.out; unfold joinR Rc.any at h; simp [g1, g2, Rc.zero] at h; obtain ⟨rfl, rfl, rfl, rfl⟩ := h; rfl
    · repeat' (first | with_reducible assumption | with_reducible exact AnyLater.refl _ | with_reducible apply AnyLater.setCell | with_reducible apply AnyLater.later | with_reducible apply AnyLater.drewN | with_reducible apply AnyLater.drew | with_reducible apply AnyLater.alloc | ((try simp only [World.size_alloc, World.size_setCell, World.size_drew]); (try dsimp only); omega))
  ·
    go_enter Try.func18, Try.ntmps18
    go_wp2_with fail
    first | refine settle_wp (fun wS => AnyLater w wS ∧ wS.heap[w.heap.size]? = some (.cells #[.int .i64 x, .int .i64 y, .int .i64 a, .int .i64 b] 23) ∧ wS.heap[w.heap.size + 1]? = some (.cells #[.int .i64 x2, .int .i64 y2, .int .i64 a2, .int .i64 b2] 23) ∧ wS.heap[w.heap.size + 1 + 1]? = some (.cells #[.int .i64 0, .int .i64 0, .int .i64 0, .int .i64 0] 23)) ?_ ?_ | refine settle_calls (fun wS => AnyLater w wS ∧ wS.heap[w.heap.size]? = some (.cells #[.int .i64 x, .int .i64 y, .int .i64 a, .int .i64 b] 23) ∧ wS.heap[w.heap.size + 1]? = some (.cells #[.int .i64 x2, .int .i64 y2, .int .i64 a2, .int .i64 b2] 23) ∧ wS.heap[w.heap.size + 1 + 1]? = some (.cells #[.int .i64 0, .int .i64 0, .int .i64 0, .int .i64 0] 23)) ?_ ?_
    · refine ⟨?_, ?_, ?_, ?_⟩
      · repeat' (first | with_reducible assumption | with_reducible exact AnyLater.refl _ | with_reducible apply AnyLater.setCell | with_reducible apply AnyLater.later | with_reducible apply AnyLater.drewN | with_reducible apply AnyLater.drew | with_reducible apply AnyLater.alloc | ((try simp only [World.size_alloc, World.size_setCell, World.size_drew]); (try dsimp only); omega))
      · ((repeat (first | with_reducible assumption | ((with_reducible apply heap_new); (try simp only [World.size_alloc, World.size_setCell, World.size_drew, World.heap_drewN]); done) | ((with_reducible apply heap_new); (try simp only [World.size_alloc, World.size_setCell, World.size_drew, World.heap_drewN]); omega) | (with_reducible refine heap_old (by (try simp only [World.size_alloc, World.size_setCell, World.size_drew, World.heap_drewN]); omega) ?_) | (with_reducible refine heap_drew ?_) | (with_reducible refine heap_far (by omega) ?_) | (with_reducible apply heap_at))); all_goals rfl)
      · ((repeat (first | with_reducible assumption | ((with_reducible apply heap_new); (try simp only [World.size_alloc, World.size_setCell, World.size_drew, World.heap_drewN]); done) | ((with_reducible apply heap_new); (try simp only [World.size_alloc, World.size_setCell, World.size_drew, World.heap_drewN]); omega) | (with_reducible refine heap_old (by (try simp only [World.size_alloc, World.size_setCell, World.size_drew, World.heap_drewN]); omega) ?_) | (with_reducible refine heap_drew ?_) | (with_reducible refine heap_far (by omega) ?_) | (with_reducible apply heap_at))); all_goals rfl)
      · ((repeat (first | with_reducible assumption | ((with_reducible apply heap_new); (try simp only [World.size_alloc, World.size_setCell, World.size_drew, World.heap_drewN]); done) | ((with_reducible apply heap_new); (try simp only [World.size_alloc, World.size_setCell, World.size_drew, World.heap_drewN]); omega) | (with_reducible refine heap_old (by (try simp only [World.size_alloc, World.size_setCell, World.size_drew, World.heap_drewN]); omega) ?_) | (with_reducible refine heap_drew ?_) | (with_reducible refine heap_far (by omega) ?_) | (with_reducible apply heap_at))); all_goals rfl)
    rintro w1 ⟨b_w1, s0_w1, s1_w1, s2_w1⟩
    have a_w1 := b_w1
    have r0_w1 := own_row s0_w1
    have f0_w1 := own_free s0_w1
    have l0_w1 := own_lt s0_w1
    have r1_w1 := own_row s1_w1
    have f1_w1 := own_free s1_w1
    have l1_w1 := own_lt s1_w1
    have r2_w1 := own_row s2_w1
    have f2_w1 := own_free s2_w1
    have l2_w1 := own_lt s2_w1
    have z_w1 := b_w1.below.size
    refine (any_any _ _ _ _ _ _ (by assumption) (by omega) (by omega) (by omega) (by omega)).mono ?_
    rintro e w2 ⟨rfl, b_w2⟩
    have z_w2 := b_w2.below.size
    have a_w2 := a_w1.trans b_w2
    have s0_w2 := any_own b_w2 s0_w1
    have s1_w2 := any_own b_w2 s1_w1
    have s2_w2 := any_own b_w2 s2_w1
    have r0_w2 := own_row s0_w2
    have f0_w2 := own_free s0_w2
    have l0_w2 := own_lt s0_w2
    have r1_w2 := own_row s1_w2
    have f1_w2 := own_free s1_w2
    have l1_w2 := own_lt s1_w2
    have r2_w2 := own_row s2_w2
    have f2_w2 := own_free s2_w2
    have l2_w2 := own_lt s2_w2
    (try clear r0_w1); (try clear f0_w1)
    (try clear r1_w1); (try clear f1_w1)
    (try clear r2_w1); (try clear f2_w1)
    go_wp2_with fail
    refine (any_any _ _ _ _ _ _ (by assumption) (by omega) (by omega) (by omega) (by omega)).mono ?_
    rintro e w3 ⟨rfl, b_w3⟩
    have z_w3 := b_w3.below.size
    have a_w3 := a_w2.trans b_w3
    have s0_w3 := any_own b_w3 s0_w2
    have s1_w3 := any_own b_w3 s1_w2
    have s2_w3 := any_own b_w3 s2_w2
    have r0_w3 := own_row s0_w3
    have f0_w3 := own_free s0_w3
    have l0_w3 := own_lt s0_w3
    have r1_w3 := own_row s1_w3
    have f1_w3 := own_free s1_w3
    have l1_w3 := own_lt s1_w3
    have r2_w3 := own_row s2_w3
    have f2_w3 := own_free s2_w3
    have l2_w3 := own_lt s2_w3
    (try clear r0_w2); (try clear f0_w2)
    (try clear r1_w2); (try clear f1_w2)
    (try clear r2_w2); (try clear f2_w2)
    go_wp2_with fail
    refine (any_any _ _ _ _ _ _ (by assumption) (by omega) (by omega) (by omega) (by omega)).mono ?_
    rintro e w4 ⟨rfl, b_w4⟩
    have z_w4 := b_w4.below.size
    have a_w4 := a_w3.trans b_w4
    have s0_w4 := any_own b_w4 s0_w3
    have s1_w4 := any_own b_w4 s1_w3
    have s2_w4 := any_own b_w4 s2_w3
    have r0_w4 := own_row s0_w4
    have f0_w4 := own_free s0_w4
    have l0_w4 := own_lt s0_w4
    have r1_w4 := own_row s1_w4
    have f1_w4 := own_free s1_w4
    have l1_w4 := own_lt s1_w4
    have r2_w4 := own_row s2_w4
    have f2_w4 := own_free s2_w4
    have l2_w4 := own_lt s2_w4
    (try clear r0_w3); (try clear f0_w3)
    (try clear r1_w3); (try clear f1_w3)
    (try clear r2_w3); (try clear f2_w3)
    go_wp2_with fail
    refine bodyPost_ret (v := .agg #[.int .i64 x, .int .i64 y, .int .i64 a, .int .i64 b]) (by simp [results, Try.results18, go_sem, r2_w4]) rfl ⟨?_, ?_⟩
    · have h := HM.out; unfold joinR Rc.any at h; simp [g1, g2, Rc.zero] at h; obtain ⟨rfl, rfl, rfl, rfl⟩ := h; rfl
    · repeat' (first | with_reducible assumption | with_reducible exact AnyLater.refl _ | with_reducible apply AnyLater.setCell | with_reducible apply AnyLater.later | with_reducible apply AnyLater.drewN | with_reducible apply AnyLater.drew | with_reducible apply AnyLater.alloc | ((try simp only [World.size_alloc, World.size_setCell, World.size_drew]); (try dsimp only); omega))
  ·
    obtain ⟨i1, i2, i3, i4, i5, i6, i7, i8⟩ := anyB_in g1
    obtain ⟨j1, j2, j3, j4, j5, j6, j7, j8⟩ := anyB_in g2
    obtain ⟨cx, e5⟩ : ∃ c, loZ x x2 = c := ⟨_, rfl⟩
    obtain ⟨cy, e6⟩ : ∃ c, loZ y y2 = c := ⟨_, rfl⟩
    obtain ⟨lx, e7⟩ : ∃ c, hiZ (x + a) (x2 + a2) = c := ⟨_, rfl⟩
    obtain ⟨ly, e8⟩ : ∃ c, hiZ (y + b) (y2 + b2) = c := ⟨_, rfl⟩
    have k1 := loZ_in x x2
    have k2 := loZ_in y y2
    have k3 := hiZ_in (x + a) (x2 + a2)
    have k4 := hiZ_in (y + b) (y2 + b2)
    rw [e5] at k1; rw [e6] at k2; rw [e7] at k3; rw [e8] at k4
    go_enter Try.func18, Try.ntmps18
    go_wp2_with fail
    first | refine settle_wp (fun wS => AnyLater w wS ∧ wS.heap[w.heap.size]? = some (.cells #[.int .i64 x, .int .i64 y, .int .i64 a, .int .i64 b] 23) ∧ wS.heap[w.heap.size + 1]? = some (.cells #[.int .i64 x2, .int .i64 y2, .int .i64 a2, .int .i64 b2] 23) ∧ wS.heap[w.heap.size + 1 + 1]? = some (.cells #[.int .i64 0, .int .i64 0, .int .i64 0, .int .i64 0] 23)) ?_ ?_ | refine settle_calls (fun wS => AnyLater w wS ∧ wS.heap[w.heap.size]? = some (.cells #[.int .i64 x, .int .i64 y, .int .i64 a, .int .i64 b] 23) ∧ wS.heap[w.heap.size + 1]? = some (.cells #[.int .i64 x2, .int .i64 y2, .int .i64 a2, .int .i64 b2] 23) ∧ wS.heap[w.heap.size + 1 + 1]? = some (.cells #[.int .i64 0, .int .i64 0, .int .i64 0, .int .i64 0] 23)) ?_ ?_
    · refine ⟨?_, ?_, ?_, ?_⟩
      · repeat' (first | with_reducible assumption | with_reducible exact AnyLater.refl _ | with_reducible apply AnyLater.setCell | with_reducible apply AnyLater.later | with_reducible apply AnyLater.drewN | with_reducible apply AnyLater.drew | with_reducible apply AnyLater.alloc | ((try simp only [World.size_alloc, World.size_setCell, World.size_drew]); (try dsimp only); omega))
      · ((repeat (first | with_reducible assumption | ((with_reducible apply heap_new); (try simp only [World.size_alloc, World.size_setCell, World.size_drew, World.heap_drewN]); done) | ((with_reducible apply heap_new); (try simp only [World.size_alloc, World.size_setCell, World.size_drew, World.heap_drewN]); omega) | (with_reducible refine heap_old (by (try simp only [World.size_alloc, World.size_setCell, World.size_drew, World.heap_drewN]); omega) ?_) | (with_reducible refine heap_drew ?_) | (with_reducible refine heap_far (by omega) ?_) | (with_reducible apply heap_at))); all_goals rfl)
      · ((repeat (first | with_reducible assumption | ((with_reducible apply heap_new); (try simp only [World.size_alloc, World.size_setCell, World.size_drew, World.heap_drewN]); done) | ((with_reducible apply heap_new); (try simp only [World.size_alloc, World.size_setCell, World.size_drew, World.heap_drewN]); omega) | (with_reducible refine heap_old (by (try simp only [World.size_alloc, World.size_setCell, World.size_drew, World.heap_drewN]); omega) ?_) | (with_reducible refine heap_drew ?_) | (with_reducible refine heap_far (by omega) ?_) | (with_reducible apply heap_at))); all_goals rfl)
      · ((repeat (first | with_reducible assumption | ((with_reducible apply heap_new); (try simp only [World.size_alloc, World.size_setCell, World.size_drew, World.heap_drewN]); done) | ((with_reducible apply heap_new); (try simp only [World.size_alloc, World.size_setCell, World.size_drew, World.heap_drewN]); omega) | (with_reducible refine heap_old (by (try simp only [World.size_alloc, World.size_setCell, World.size_drew, World.heap_drewN]); omega) ?_) | (with_reducible refine heap_drew ?_) | (with_reducible refine heap_far (by omega) ?_) | (with_reducible apply heap_at))); all_goals rfl)
    rintro w1 ⟨b_w1, s0_w1, s1_w1, s2_w1⟩
    have a_w1 := b_w1
    have r0_w1 := own_row s0_w1
    have f0_w1 := own_free s0_w1
    have l0_w1 := own_lt s0_w1
    have r1_w1 := own_row s1_w1
    have f1_w1 := own_free s1_w1
    have l1_w1 := own_lt s1_w1
    have r2_w1 := own_row s2_w1
    have f2_w1 := own_free s2_w1
    have l2_w1 := own_lt s2_w1
    have z_w1 := b_w1.below.size
    refine (any_any _ _ _ _ _ _ (by assumption) (by omega) (by omega) (by omega) (by omega)).mono ?_
    rintro e w2 ⟨rfl, b_w2⟩
    have z_w2 := b_w2.below.size
    have a_w2 := a_w1.trans b_w2
    have s0_w2 := any_own b_w2 s0_w1
    have s1_w2 := any_own b_w2 s1_w1
    have s2_w2 := any_own b_w2 s2_w1
    have r0_w2 := own_row s0_w2
    have f0_w2 := own_free s0_w2
    have l0_w2 := own_lt s0_w2
    have r1_w2 := own_row s1_w2
    have f1_w2 := own_free s1_w2
    have l1_w2 := own_lt s1_w2
    have r2_w2 := own_row s2_w2
    have f2_w2 := own_free s2_w2
    have l2_w2 := own_lt s2_w2
    (try clear r0_w1); (try clear f0_w1)
    (try clear r1_w1); (try clear f1_w1)
    (try clear r2_w1); (try clear f2_w1)
    go_wp2_with fail
    refine (any_any _ _ _ _ _ _ (by assumption) (by omega) (by omega) (by omega) (by omega)).mono ?_
    rintro e w3 ⟨rfl, b_w3⟩
    have z_w3 := b_w3.below.size
    have a_w3 := a_w2.trans b_w3
    have s0_w3 := any_own b_w3 s0_w2
    have s1_w3 := any_own b_w3 s1_w2
    have s2_w3 := any_own b_w3 s2_w2
    have r0_w3 := own_row s0_w3
    have f0_w3 := own_free s0_w3
    have l0_w3 := own_lt s0_w3
    have r1_w3 := own_row s1_w3
    have f1_w3 := own_free s1_w3
    have l1_w3 := own_lt s1_w3
    have r2_w3 := own_row s2_w3
    have f2_w3 := own_free s2_w3
    have l2_w3 := own_lt s2_w3
    (try clear r0_w2); (try clear f0_w2)
    (try clear r1_w2); (try clear f1_w2)
    (try clear r2_w2); (try clear f2_w2)
    go_wp2_with fail
    refine (any_any _ _ _ _ _ _ (by assumption) (by omega) (by omega) (by omega) (by omega)).mono ?_
    rintro e w4 ⟨rfl, b_w4⟩
    have z_w4 := b_w4.below.size
    have a_w4 := a_w3.trans b_w4
    have s0_w4 := any_own b_w4 s0_w3
    have s1_w4 := any_own b_w4 s1_w3
    have s2_w4 := any_own b_w4 s2_w3
    have r0_w4 := own_row s0_w4
    have f0_w4 := own_free s0_w4
    have l0_w4 := own_lt s0_w4
    have r1_w4 := own_row s1_w4
    have f1_w4 := own_free s1_w4
    have l1_w4 := own_lt s1_w4
    have r2_w4 := own_row s2_w4
    have f2_w4 := own_free s2_w4
    have l2_w4 := own_lt s2_w4
    (try clear r0_w3); (try clear f0_w3)
    (try clear r1_w3); (try clear f1_w3)
    (try clear r2_w3); (try clear f2_w3)
    go_wp2_with fail
    apply wp_region_mem (12) [] (by kernel_rfl) (by kernel_rfl) (by simp)
    case hstab =>
      intro e he v x y hxy hv
      simp only [List.mem_cons, List.not_mem_nil, or_false] at he
    case hlex =>
      intro U
      have q0 := fun (v : Later (later U)) => own_row (any_own ⟨v, rfl⟩ (any_own ⟨U, rfl⟩ s0_w4))
      have q1 := fun (v : Later (later U)) => own_row (any_own ⟨v, rfl⟩ (any_own ⟨U, rfl⟩ s1_w4))
      have q2 := fun (v : Later (later U)) => own_row (any_own ⟨v, rfl⟩ (any_own ⟨U, rfl⟩ s2_w4))
      simp only [absFrom, absOp, idx, List.map_cons, List.map_nil, List.contains_cons, List.contains_nil, Nat.reduceBEq, Bool.or_false, Bool.false_or, Bool.true_or, Bool.or_true, Bool.false_eq_true, Nat.reduceLeDiff, Nat.reduceAdd, if_false, if_true]
      repeat (go_big_quiet_step (first | (go_at_call 23; exact in_later_same (low_any _ _ _ _ (by assumption)))))
      exact wpQuiet_nil rfl
    case hown =>
      intro e he o ho
      simp only [List.mem_cons, List.not_mem_nil, or_false] at he
    case htail =>
      intro g u hst hne
      have b_w5 : AnyLater w4 (later u) := ⟨u, rfl⟩
      generalize later u = w5 at *
      clear u
      clear hst hne
      simp only [fillAll, Act.put, List.setIfInBounds_toArray, List.set_cons_zero, List.set_cons_succ, List.drop_succ_cons, List.drop_zero]
      have z_w5 := b_w5.below.size
      have a_w5 := a_w4.trans b_w5
      have s0_w5 := any_own b_w5 s0_w4
      have s1_w5 := any_own b_w5 s1_w4
      have s2_w5 := any_own b_w5 s2_w4
      have r0_w5 := own_row s0_w5
      have f0_w5 := own_free s0_w5
      have l0_w5 := own_lt s0_w5
      have r1_w5 := own_row s1_w5
      have f1_w5 := own_free s1_w5
      have l1_w5 := own_lt s1_w5
      have r2_w5 := own_row s2_w5
      have f2_w5 := own_free s2_w5
      have l2_w5 := own_lt s2_w5
      (try clear r0_w4); (try clear f0_w4)
      (try clear r1_w4); (try clear f1_w4)
      (try clear r2_w4); (try clear f2_w4)
      go_wp2_with fail
      apply wp_region_mem (29) [] (by kernel_rfl) (by kernel_rfl) (by simp)
      case hstab =>
        intro e he v x y hxy hv
        simp only [List.mem_cons, List.not_mem_nil, or_false] at he
      case hlex =>
        intro U
        have q0 := fun (v : Later (later U)) => own_row (any_own ⟨v, rfl⟩ (any_own ⟨U, rfl⟩ s0_w5))
        have q1 := fun (v : Later (later U)) => own_row (any_own ⟨v, rfl⟩ (any_own ⟨U, rfl⟩ s1_w5))
        have q2 := fun (v : Later (later U)) => own_row (any_own ⟨v, rfl⟩ (any_own ⟨U, rfl⟩ s2_w5))
        simp only [absFrom, absOp, idx, List.map_cons, List.map_nil, List.contains_cons, List.contains_nil, Nat.reduceBEq, Bool.or_false, Bool.false_or, Bool.true_or, Bool.or_true, Bool.false_eq_true, Nat.reduceLeDiff, Nat.reduceAdd, if_false, if_true]
        repeat (go_big_quiet_step (first | (go_at_call 22; exact in_later_same (high_any _ _ _ _ (by assumption)))))
        exact wpQuiet_nil rfl
      case hown =>
        intro e he o ho
        simp only [List.mem_cons, List.not_mem_nil, or_false] at he
      case htail =>
        intro g u hst hne
        have b_w6 : AnyLater w5 (later u) := ⟨u, rfl⟩
        generalize later u = w6 at *
        clear u
        clear hst hne
        simp only [fillAll, Act.put, List.setIfInBounds_toArray, List.set_cons_zero, List.set_cons_succ, List.drop_succ_cons, List.drop_zero]
        have z_w6 := b_w6.below.size
        have a_w6 := a_w5.trans b_w6
        have s0_w6 := any_own b_w6 s0_w5
        have s1_w6 := any_own b_w6 s1_w5
        have s2_w6 := any_own b_w6 s2_w5
        have r0_w6 := own_row s0_w6
        have f0_w6 := own_free s0_w6
        have l0_w6 := own_lt s0_w6
        have r1_w6 := own_row s1_w6
        have f1_w6 := own_free s1_w6
        have l1_w6 := own_lt s1_w6
        have r2_w6 := own_row s2_w6
        have f2_w6 := own_free s2_w6
        have l2_w6 := own_lt s2_w6
        (try clear r0_w5); (try clear f0_w5)
        (try clear r1_w5); (try clear f1_w5)
        (try clear r2_w5); (try clear f2_w5)
        go_wp2
        refine bodyPost_ret (v := .agg #[.int .i64 cx, .int .i64 cy, .int .i64 (lx - cx), .int .i64 (ly - cy)]) (by simp [results, Try.results18, go_sem, r2_w6]) rfl ⟨?_, ?_⟩
        · have h := HM.out; unfold joinR Rc.any at h; simp [g1, g2, Rc.zero, e5, e6, e7, e8] at h; obtain ⟨rfl, rfl, rfl, rfl⟩ := h; rfl
        · repeat' (first | with_reducible assumption | with_reducible exact AnyLater.refl _ | with_reducible apply AnyLater.setCell | with_reducible apply AnyLater.later | with_reducible apply AnyLater.drewN | with_reducible apply AnyLater.drew | with_reducible apply AnyLater.alloc | ((try simp only [World.size_alloc, World.size_setCell, World.size_drew]); (try dsimp only); omega))
end Go.Proofs.Ytddmhonhajfehaa
