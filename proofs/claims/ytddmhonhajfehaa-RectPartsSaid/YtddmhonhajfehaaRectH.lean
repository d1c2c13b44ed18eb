/- rect: the law on what two rectangles share, walked over the contracts. -/
import Derived.Test.YtddmhonhajfehaaRectE
import Derived.Test.YtddmhonhajfehaaRectF
import Derived.Test.YtddmhonhajfehaaRectG
namespace Go.Proofs.Ytddmhonhajfehaa
set_option linter.unusedSimpArgs false
set_option linter.unusedVariables false
set_option linter.unusedSectionVars false
open Go.RowKit

theorem meet_at (x y a b x2 y2 a2 b2 : Int) (w : World) (hx : I64 x) (hy : I64 y) (ha : I64 a) (hb : I64 b) (hx2 : I64 x2) (hy2 : I64 y2) (ha2 : I64 a2) (hb2 : I64 b2) (p q r s : Int) (hm : meetR ⟨x, y, a, b⟩ ⟨x2, y2, a2, b2⟩ = ⟨p, q, r, s⟩) :
    Calls Try.prog 15 #[.agg #[.int .i64 x, .int .i64 y, .int .i64 a, .int .i64 b], .agg #[.int .i64 x2, .int .i64 y2, .int .i64 a2, .int .i64 b2]] w fun e w' => e = .returned (.agg #[.int .i64 p, .int .i64 q, .int .i64 r, .int .i64 s]) ∧ AnyLater w w' := by
  have := meet_any x y a b x2 y2 a2 b2 w hx hy ha hb hx2 hy2 ha2 hb2
  rw [hm] at this; exact this
theorem refMeet_at (x y a b x2 y2 a2 b2 : Int) (w : World) (hx : I64 x) (hy : I64 y) (ha : I64 a) (hb : I64 b) (hx2 : I64 x2) (hy2 : I64 y2) (ha2 : I64 a2) (hb2 : I64 b2) (p q r s : Int) (hm : meetR ⟨x, y, a, b⟩ ⟨x2, y2, a2, b2⟩ = ⟨p, q, r, s⟩) :
    Calls Try.prog 17 #[.agg #[.int .i64 x, .int .i64 y, .int .i64 a, .int .i64 b], .agg #[.int .i64 x2, .int .i64 y2, .int .i64 a2, .int .i64 b2]] w fun e w' => e = .returned (.agg #[.int .i64 p, .int .i64 q, .int .i64 r, .int .i64 s]) ∧ AnyLater w w' := by
  have := refMeet_any x y a b x2 y2 a2 b2 w hx hy ha hb hx2 hy2 ha2 hb2
  rw [hm] at this; exact this

theorem inB_iff {x y a b u v : Int} : inB x y a b u v = true ↔ (-1073741824 ≤ x ∧ 0 ≤ a ∧ x ≤ 1073741824 - a ∧ -1073741824 ≤ y ∧ 0 ≤ b ∧ y ≤ 1073741824 - b) ∧ x ≤ u ∧ u < x + a ∧ y ≤ v ∧ v < y + b := by
  unfold inB goodB sideB; simp only [Bool.and_eq_true, decide_eq_true_eq]; constructor <;> intro h <;> omega
theorem anyB_iff {x y a b : Int} : anyB x y a b = true ↔ (-1073741824 ≤ x ∧ 0 < a ∧ x ≤ 1073741824 - a ∧ -1073741824 ≤ y ∧ 0 < b ∧ y ≤ 1073741824 - b) := by
  unfold anyB goodB sideB; simp only [Bool.and_eq_true, decide_eq_true_eq]; constructor <;> intro h <;> omega
theorem inB_none {x y a b u v : Int} (h : anyB x y a b = false) : inB x y a b u v = false := by
  cases hi : inB x y a b u v with
  | false => rfl
  | true =>
    have := inB_iff.1 hi
    have : anyB x y a b = true := anyB_iff.2 (by omega)
    rw [this] at h; cases h
theorem meet_in {x y a b x2 y2 a2 b2 p q r s : Int} (h : meetR ⟨x, y, a, b⟩ ⟨x2, y2, a2, b2⟩ = ⟨p, q, r, s⟩) :
    (-2147483648 ≤ p ∧ p ≤ 2147483648 ∧ -2147483648 ≤ q ∧ q ≤ 2147483648 ∧ -4294967296 ≤ r ∧ r ≤ 4294967296 ∧ -4294967296 ≤ s ∧ s ≤ 4294967296) ∧ ∀ u v, inB p q r s u v = (inB x y a b u v && inB x2 y2 a2 b2 u v) := by
  unfold meetR Rc.any crossR Rc.zero at h
  rcases g1 : anyB x y a b <;> rcases g2 : anyB x2 y2 a2 b2
  all_goals simp only [g1, g2, Bool.and_self, Bool.and_false, Bool.and_true, Bool.false_eq_true, if_false, if_true] at h
  case' true.true =>
    have k1 := hiZ_in x x2
    have k2 := hiZ_in y y2
    have k3 := loZ_in (x + a) (x2 + a2)
    have k4 := loZ_in (y + b) (y2 + b2)
    have i1 := anyB_iff.1 g1
    have i2 := anyB_iff.1 g2
    split at h
  all_goals
    simp only [Rc.mk.injEq] at h
    obtain ⟨rfl, rfl, rfl, rfl⟩ := h
    refine ⟨by omega, fun u v => ?_⟩
  case false.false => rw [inB_none g1, Bool.false_and]; exact inB_none rfl
  case false.true => rw [inB_none g1, Bool.false_and]; exact inB_none rfl
  case true.false => rw [inB_none g2, Bool.and_false]; exact inB_none rfl
  all_goals
    rw [Bool.eq_iff_iff, Bool.and_eq_true, inB_iff, inB_iff, inB_iff]
    omega
theorem join_in {x y a b x2 y2 a2 b2 p q r s : Int} (h : joinR ⟨x, y, a, b⟩ ⟨x2, y2, a2, b2⟩ = ⟨p, q, r, s⟩) (hx : I64 x) (hy : I64 y) (ha : I64 a) (hb : I64 b) (hx2 : I64 x2) (hy2 : I64 y2) (ha2 : I64 a2) (hb2 : I64 b2) :
    (I64 p ∧ I64 q ∧ I64 r ∧ I64 s) ∧ ∀ u v, (inB x y a b u v = true ∨ inB x2 y2 a2 b2 u v = true) → inB p q r s u v = true := by
  unfold joinR Rc.any Rc.zero at h
  rcases g1 : anyB x y a b <;> rcases g2 : anyB x2 y2 a2 b2
  all_goals simp only [g1, g2, Bool.false_eq_true, if_false, if_true, Rc.mk.injEq] at h
  case' true.true =>
    have k1 := loZ_in x x2
    have k2 := loZ_in y y2
    have k3 := hiZ_in (x + a) (x2 + a2)
    have k4 := hiZ_in (y + b) (y2 + b2)
    have i1 := anyB_iff.1 g1
    have i2 := anyB_iff.1 g2
  all_goals
    obtain ⟨rfl, rfl, rfl, rfl⟩ := h
    refine ⟨by omega, fun u v hu => ?_⟩
  case false.false => rw [inB_none g1, inB_none g2] at hu; simp at hu
  case false.true => rw [inB_none g1] at hu; simpa using hu
  case true.false => rw [inB_none g2] at hu; simpa using hu
  rw [inB_iff, inB_iff] at hu
  rw [inB_iff]
  omega

set_option maxHeartbeats 1000000 in
theorem rectMeets_walk (x y a b x2 y2 a2 b2 p q : Int) (w : World) (hx : I64 x) (hy : I64 y) (ha : I64 a) (hb : I64 b) (hx2 : I64 x2) (hy2 : I64 y2) (ha2 : I64 a2) (hb2 : I64 b2) (hp : I64 p) (hq : I64 q) :
    Calls Try.prog 4 #[.agg #[.int .i64 x, .int .i64 y, .int .i64 a, .int .i64 b], .agg #[.int .i64 x2, .int .i64 y2, .int .i64 a2, .int .i64 b2], .agg #[.int .i64 p, .int .i64 q]] w fun e w' => e = .returned (.bool true) ∧ AnyLater w w' := by
  obtain ⟨⟨mx, my, ma, mb⟩, hm⟩ : ∃ m, meetR ⟨x, y, a, b⟩ ⟨x2, y2, a2, b2⟩ = m := ⟨_, rfl⟩
  obtain ⟨⟨jx, jy, ja, jb⟩, hj⟩ : ∃ m, joinR ⟨x, y, a, b⟩ ⟨x2, y2, a2, b2⟩ = m := ⟨_, rfl⟩
  obtain ⟨mi, mh⟩ := meet_in hm
  obtain ⟨⟨j1, j2, j3, j4⟩, jh⟩ := join_in hj hx hy ha hb hx2 hy2 ha2 hb2
  have mh := mh p q
  have jh := jh p q
  rcases g1 : inB x y a b p q <;> rcases g2 : inB x2 y2 a2 b2 p q
  all_goals
    rw [g1, g2] at mh jh
    simp only [Bool.and_self, Bool.and_false, Bool.and_true, Bool.false_and, Bool.true_and, Bool.false_eq_true, or_self, or_true, true_or, false_implies, true_implies] at mh jh
    have HM := Lib.hid hm
    have HJ := Lib.hid hj
    clear hm hj
    go_enter Try.func4, Try.ntmps4
    go_wp2_with fail
    first | refine settle_wp (fun wS => AnyLater w wS ∧ wS.heap[w.heap.size]? = some (.cells #[.int .i64 x, .int .i64 y, .int .i64 a, .int .i64 b] 23) ∧ wS.heap[w.heap.size + 1]? = some (.cells #[.int .i64 x2, .int .i64 y2, .int .i64 a2, .int .i64 b2] 23) ∧ wS.heap[w.heap.size + 1 + 1]? = some (.cells #[.int .i64 p, .int .i64 q] 28)) ?_ ?_ | refine settle_calls (fun wS => AnyLater w wS ∧ wS.heap[w.heap.size]? = some (.cells #[.int .i64 x, .int .i64 y, .int .i64 a, .int .i64 b] 23) ∧ wS.heap[w.heap.size + 1]? = some (.cells #[.int .i64 x2, .int .i64 y2, .int .i64 a2, .int .i64 b2] 23) ∧ wS.heap[w.heap.size + 1 + 1]? = some (.cells #[.int .i64 p, .int .i64 q] 28)) ?_ ?_
    · refine ⟨?_, ?_, ?_, ?_⟩
      · repeat' (first | with_reducible assumption | with_reducible exact AnyLater.refl _ | with_reducible apply AnyLater.setCell | with_reducible apply AnyLater.later | with_reducible apply AnyLater.drewN | with_reducible apply AnyLater.drew | with_reducible apply AnyLater.alloc | ((try simp only [World.size_alloc, World.size_setCell, World.size_drew]); (try dsimp only); omega))
      · ((repeat (first | with_reducible assumption | ((with_reducible apply heap_new); (try simp only [World.size_alloc, World.size_setCell, World.size_drew, World.heap_drewN]); done) | ((with_reducible apply heap_new); (try simp only [World.size_alloc, World.size_setCell, World.size_drew, World.heap_drewN]); omega) | (with_reducible refine heap_old (by (try simp only [World.size_alloc, World.size_setCell, World.size_drew, World.heap_drewN]); omega) ?_) | (with_reducible refine heap_drew ?_) | (with_reducible refine heap_far (by omega) ?_) | (with_reducible apply heap_at))); all_goals rfl)
      · ((repeat (first | with_reducible assumption | ((with_reducible apply heap_new); (try simp only [World.size_alloc, World.size_setCell, World.size_drew, World.heap_drewN]); done) | ((with_reducible apply heap_new); (try simp only [World.size_alloc, World.size_setCell, World.size_drew, World.heap_drewN]); omega) | (with_reducible refine heap_old (by (try simp only [World.size_alloc, World.size_setCell, World.size_drew, World.heap_drewN]); omega) ?_) | (with_reducible refine heap_drew ?_) | (with_reducible refine heap_far (by omega) ?_) | (with_reducible apply heap_at))); all_goals rfl)
      · ((repeat (first | with_reducible assumption | ((with_reducible apply heap_new); (try simp only [World.size_alloc, World.size_setCell, World.size_drew, World.heap_drewN]); done) | ((with_reducible apply heap_new); (try simp only [World.size_alloc, World.size_setCell, World.size_drew, World.heap_drewN]); omega) | (with_reducible refine heap_old (by (try simp only [World.size_alloc, World.size_setCell, World.size_drew, World.heap_drewN]); omega) ?_) | (with_reducible refine heap_drew ?_) | (with_reducible refine heap_far (by omega) ?_) | (with_reducible apply heap_at))); all_goals rfl)
    rintro w1 ⟨b_w1, s0_w1, s1_w1, s2_w1⟩
    have a_w1 := b_w1
    have r0_w1 := own_row s0_w1
    have f0_w1 := own_free s0_w1
    have l0_w1 := own_lt s0_w1
    have r1_w1 := own_row s1_w1
    have f1_w1 := own_free s1_w1
    have l1_w1 := own_lt s1_w1
    have r2_w1 := own_row s2_w1
    have f2_w1 := own_free s2_w1
    have l2_w1 := own_lt s2_w1
    have z_w1 := b_w1.below.size
    apply wp_region_mem (8) [⟨6, 7, isVar (.cells #[.int .i64 0, .int .i64 0, .int .i64 0, .int .i64 0] 23)⟩, ⟨7, 8, isVar (.cells #[.int .i64 0, .int .i64 0, .int .i64 0, .int .i64 0] 23)⟩] (by kernel_rfl) (by kernel_rfl) (by simp)
    case hstab =>
      intro e he v x y hxy hv
      simp only [List.mem_cons, List.not_mem_nil, or_false] at he
      rcases he with rfl | rfl
      · exact isVar_stays hxy hv
      · exact isVar_stays hxy hv
    case hlex =>
      intro U
      have q0 := fun (v : Later (later U)) => own_row (any_own ⟨v, rfl⟩ (any_own ⟨U, rfl⟩ s0_w1))
      have q1 := fun (v : Later (later U)) => own_row (any_own ⟨v, rfl⟩ (any_own ⟨U, rfl⟩ s1_w1))
      have q2 := fun (v : Later (later U)) => own_row (any_own ⟨v, rfl⟩ (any_own ⟨U, rfl⟩ s2_w1))
      simp only [absFrom, absOp, idx, List.map_cons, List.map_nil, List.contains_cons, List.contains_nil, Nat.reduceBEq, Bool.or_false, Bool.false_or, Bool.true_or, Bool.or_true, Bool.false_eq_true, Nat.reduceLeDiff, Nat.reduceAdd, if_false, if_true]
      repeat (go_big_quiet_step (first | (go_at_call 15; exact in_later (meet_at _ _ _ _ _ _ _ _ _ hx hy ha hb hx2 hy2 ha2 hb2 _ _ _ _ HM.out)) | (go_at_call 16; exact in_later (join_any _ _ _ _ _ _ _ _ _ hx hy ha hb hx2 hy2 ha2 hb2 _ _ _ _ HJ.out))))
      exact wpQuiet_nil rfl
    case hown =>
      intro e he o ho
      simp only [List.mem_cons, List.not_mem_nil, or_false] at he
      rcases he with rfl | rfl
      · cases ho; exact step_var (fun r x => by simp [go_sem, execOp])
      · cases ho; exact step_var (fun r x => by simp [go_sem, execOp])
    case htail =>
      intro g u hst hne
      have b_w2 : AnyLater w1 (later u) := ⟨u, rfl⟩
      generalize later u = w2 at *
      clear u
      obtain ⟨⟨b7, e7, s3_w2⟩, o7_w2⟩ := hst _ (List.mem_of_getElem? (i := 0) rfl)
      dsimp only at e7 o7_w2
      have o7_w2 := o7_w2 b7 (by rw [e7]; rfl)
      obtain ⟨⟨b8, e8, s4_w2⟩, o8_w2⟩ := hst _ (List.mem_of_getElem? (i := 1) rfl)
      dsimp only at e8 o8_w2
      have o8_w2 := o8_w2 b8 (by rw [e8]; rfl)
      have d0_1 := hne _ (List.mem_of_getElem? (i := 0) rfl) _ (List.mem_of_getElem? (i := 1) rfl) (by decide)
      dsimp only at d0_1
      have d0_1 := d0_1 b7 (by rw [e7]; rfl)
      have d0_1 : b7 ≠ b8 := fun h => d0_1 (by rw [e8, h]; rfl)
      clear hst hne
      simp only [fillAll, Act.put, List.setIfInBounds_toArray, List.set_cons_zero, List.set_cons_succ, List.drop_succ_cons, List.drop_zero]
      rw [e7]
      clear e7
      rw [e8]
      clear e8
      have z_w2 := b_w2.below.size
      have a_w2 := a_w1.trans b_w2
      have s0_w2 := any_own b_w2 s0_w1
      have s1_w2 := any_own b_w2 s1_w1
      have s2_w2 := any_own b_w2 s2_w1
      have r0_w2 := own_row s0_w2
      have f0_w2 := own_free s0_w2
      have l0_w2 := own_lt s0_w2
      have r1_w2 := own_row s1_w2
      have f1_w2 := own_free s1_w2
      have l1_w2 := own_lt s1_w2
      have r2_w2 := own_row s2_w2
      have f2_w2 := own_free s2_w2
      have l2_w2 := own_lt s2_w2
      (try clear r0_w1); (try clear f0_w1)
      (try clear r1_w1); (try clear f1_w1)
      (try clear r2_w1); (try clear f2_w1)
      have r3_w2 := own_row s3_w2
      have f3_w2 := own_free s3_w2
      have l3_w2 := own_lt s3_w2
      have r4_w2 := own_row s4_w2
      have f4_w2 := own_free s4_w2
      have l4_w2 := own_lt s4_w2
      go_wp2_with fail
      first | refine settle_wp (fun wS => AnyLater w1 wS ∧ wS.heap[b7]? = some (.cells #[.int .i64 mx, .int .i64 my, .int .i64 ma, .int .i64 mb] 23) ∧ wS.heap[b8]? = some (.cells #[.int .i64 jx, .int .i64 jy, .int .i64 ja, .int .i64 jb] 23)) ?_ ?_ | refine settle_calls (fun wS => AnyLater w1 wS ∧ wS.heap[b7]? = some (.cells #[.int .i64 mx, .int .i64 my, .int .i64 ma, .int .i64 mb] 23) ∧ wS.heap[b8]? = some (.cells #[.int .i64 jx, .int .i64 jy, .int .i64 ja, .int .i64 jb] 23)) ?_ ?_
      · refine ⟨?_, ?_, ?_⟩
        · repeat' (first | with_reducible assumption | with_reducible exact AnyLater.refl _ | with_reducible apply AnyLater.setCell | with_reducible apply AnyLater.later | with_reducible apply AnyLater.drewN | with_reducible apply AnyLater.drew | with_reducible apply AnyLater.alloc | ((try simp only [World.size_alloc, World.size_setCell, World.size_drew]); (try dsimp only); omega))
        · ((repeat (first | with_reducible assumption | ((with_reducible apply heap_new); (try simp only [World.size_alloc, World.size_setCell, World.size_drew, World.heap_drewN]); done) | ((with_reducible apply heap_new); (try simp only [World.size_alloc, World.size_setCell, World.size_drew, World.heap_drewN]); omega) | (with_reducible refine heap_old (by (try simp only [World.size_alloc, World.size_setCell, World.size_drew, World.heap_drewN]); omega) ?_) | (with_reducible refine heap_drew ?_) | (with_reducible refine heap_far (by omega) ?_) | (with_reducible apply heap_at))); all_goals rfl)
        · ((repeat (first | with_reducible assumption | ((with_reducible apply heap_new); (try simp only [World.size_alloc, World.size_setCell, World.size_drew, World.heap_drewN]); done) | ((with_reducible apply heap_new); (try simp only [World.size_alloc, World.size_setCell, World.size_drew, World.heap_drewN]); omega) | (with_reducible refine heap_old (by (try simp only [World.size_alloc, World.size_setCell, World.size_drew, World.heap_drewN]); omega) ?_) | (with_reducible refine heap_drew ?_) | (with_reducible refine heap_far (by omega) ?_) | (with_reducible apply heap_at))); all_goals rfl)
      rintro w3 ⟨b_w3, s3_w3, s4_w3⟩
      have a_w3 := a_w1.trans b_w3
      have s0_w3 := any_own b_w3 s0_w1
      have s1_w3 := any_own b_w3 s1_w1
      have s2_w3 := any_own b_w3 s2_w1
      have r0_w3 := own_row s0_w3
      have f0_w3 := own_free s0_w3
      have l0_w3 := own_lt s0_w3
      have r1_w3 := own_row s1_w3
      have f1_w3 := own_free s1_w3
      have l1_w3 := own_lt s1_w3
      have r2_w3 := own_row s2_w3
      have f2_w3 := own_free s2_w3
      have l2_w3 := own_lt s2_w3
      (try clear r0_w1); (try clear f0_w1)
      (try clear r1_w1); (try clear f1_w1)
      (try clear r2_w1); (try clear f2_w1)
      have r3_w3 := own_row s3_w3
      have f3_w3 := own_free s3_w3
      have l3_w3 := own_lt s3_w3
      have r4_w3 := own_row s4_w3
      have f4_w3 := own_free s4_w3
      have l4_w3 := own_lt s4_w3
      have z_w3 := b_w3.below.size
      apply wp_region_mem (14) [] (by kernel_rfl) (by kernel_rfl) (by simp)
      case hstab =>
        intro e he v x y hxy hv
        simp only [List.mem_cons, List.not_mem_nil, or_false] at he
      case hlex =>
        intro U
        have q0 := fun (v : Later (later U)) => own_row (any_own ⟨v, rfl⟩ (any_own ⟨U, rfl⟩ s0_w3))
        have q1 := fun (v : Later (later U)) => own_row (any_own ⟨v, rfl⟩ (any_own ⟨U, rfl⟩ s1_w3))
        have q2 := fun (v : Later (later U)) => own_row (any_own ⟨v, rfl⟩ (any_own ⟨U, rfl⟩ s2_w3))
        have q3 := fun (v : Later (later U)) => own_row (any_own ⟨v, rfl⟩ (any_own ⟨U, rfl⟩ s3_w3))
        have q4 := fun (v : Later (later U)) => own_row (any_own ⟨v, rfl⟩ (any_own ⟨U, rfl⟩ s4_w3))
        simp only [absFrom, absOp, idx, List.map_cons, List.map_nil, List.contains_cons, List.contains_nil, Nat.reduceBEq, Bool.or_false, Bool.false_or, Bool.true_or, Bool.or_true, Bool.false_eq_true, Nat.reduceLeDiff, Nat.reduceAdd, if_false, if_true]
        repeat (go_big_quiet_step (first | (go_at_call 12; exact in_later (in_any _ _ _ _ _ _ _ _ (by assumption) (by assumption) (by assumption) (by assumption) (by assumption) (by assumption) (by assumption)))))
        exact wpQuiet_nil rfl
      case hown =>
        intro e he o ho
        simp only [List.mem_cons, List.not_mem_nil, or_false] at he
      case htail =>
        intro g u hst hne
        have b_w4 : AnyLater w3 (later u) := ⟨u, rfl⟩
        generalize later u = w4 at *
        clear u
        clear hst hne
        simp only [fillAll, Act.put, List.setIfInBounds_toArray, List.set_cons_zero, List.set_cons_succ, List.drop_succ_cons, List.drop_zero]
        have z_w4 := b_w4.below.size
        have a_w4 := a_w3.trans b_w4
        have s0_w4 := any_own b_w4 s0_w3
        have s1_w4 := any_own b_w4 s1_w3
        have s2_w4 := any_own b_w4 s2_w3
        have s3_w4 := any_own b_w4 s3_w3
        have s4_w4 := any_own b_w4 s4_w3
        have r0_w4 := own_row s0_w4
        have f0_w4 := own_free s0_w4
        have l0_w4 := own_lt s0_w4
        have r1_w4 := own_row s1_w4
        have f1_w4 := own_free s1_w4
        have l1_w4 := own_lt s1_w4
        have r2_w4 := own_row s2_w4
        have f2_w4 := own_free s2_w4
        have l2_w4 := own_lt s2_w4
        have r3_w4 := own_row s3_w4
        have f3_w4 := own_free s3_w4
        have l3_w4 := own_lt s3_w4
        have r4_w4 := own_row s4_w4
        have f4_w4 := own_free s4_w4
        have l4_w4 := own_lt s4_w4
        (try clear r0_w3); (try clear f0_w3)
        (try clear r1_w3); (try clear f1_w3)
        (try clear r2_w3); (try clear f2_w3)
        (try clear r3_w3); (try clear f3_w3)
        (try clear r4_w3); (try clear f4_w3)
        go_wp2_with fail
        apply wp_region_mem (25) [] (by kernel_rfl) (by kernel_rfl) (by simp)
        case hstab =>
          intro e he v x y hxy hv
          simp only [List.mem_cons, List.not_mem_nil, or_false] at he
        case hlex =>
          intro U
          have q0 := fun (v : Later (later U)) => own_row (any_own ⟨v, rfl⟩ (any_own ⟨U, rfl⟩ s0_w4))
          have q1 := fun (v : Later (later U)) => own_row (any_own ⟨v, rfl⟩ (any_own ⟨U, rfl⟩ s1_w4))
          have q2 := fun (v : Later (later U)) => own_row (any_own ⟨v, rfl⟩ (any_own ⟨U, rfl⟩ s2_w4))
          have q3 := fun (v : Later (later U)) => own_row (any_own ⟨v, rfl⟩ (any_own ⟨U, rfl⟩ s3_w4))
          have q4 := fun (v : Later (later U)) => own_row (any_own ⟨v, rfl⟩ (any_own ⟨U, rfl⟩ s4_w4))
          simp only [absFrom, absOp, idx, List.map_cons, List.map_nil, List.contains_cons, List.contains_nil, Nat.reduceBEq, Bool.or_false, Bool.false_or, Bool.true_or, Bool.or_true, Bool.false_eq_true, Nat.reduceLeDiff, Nat.reduceAdd, if_false, if_true]
          repeat (go_big_quiet_step (first | (go_at_call 17; exact in_later (refMeet_at _ _ _ _ _ _ _ _ _ hx hy ha hb hx2 hy2 ha2 hb2 _ _ _ _ HM.out)) | (go_at_call 18; exact in_later (refJoin_any _ _ _ _ _ _ _ _ _ hx hy ha hb hx2 hy2 ha2 hb2 _ _ _ _ HJ.out)) | (go_at_call 11; exact in_later (has_any mx my ma mb p q _ _ mh (by omega) (by omega) (by omega) (by omega) hp hq))))
          exact wpQuiet_nil rfl
        case hown =>
          intro e he o ho
          simp only [List.mem_cons, List.not_mem_nil, or_false] at he
        case htail =>
          intro g u hst hne
          have b_w5 : AnyLater w4 (later u) := ⟨u, rfl⟩
          generalize later u = w5 at *
          clear u
          clear hst hne
          simp only [fillAll, Act.put, List.setIfInBounds_toArray, List.set_cons_zero, List.set_cons_succ, List.drop_succ_cons, List.drop_zero]
          have z_w5 := b_w5.below.size
          have a_w5 := a_w4.trans b_w5
          have s0_w5 := any_own b_w5 s0_w4
          have s1_w5 := any_own b_w5 s1_w4
          have s2_w5 := any_own b_w5 s2_w4
          have s3_w5 := any_own b_w5 s3_w4
          have s4_w5 := any_own b_w5 s4_w4
          have r0_w5 := own_row s0_w5
          have f0_w5 := own_free s0_w5
          have l0_w5 := own_lt s0_w5
          have r1_w5 := own_row s1_w5
          have f1_w5 := own_free s1_w5
          have l1_w5 := own_lt s1_w5
          have r2_w5 := own_row s2_w5
          have f2_w5 := own_free s2_w5
          have l2_w5 := own_lt s2_w5
          have r3_w5 := own_row s3_w5
          have f3_w5 := own_free s3_w5
          have l3_w5 := own_lt s3_w5
          have r4_w5 := own_row s4_w5
          have f4_w5 := own_free s4_w5
          have l4_w5 := own_lt s4_w5
          (try clear r0_w4); (try clear f0_w4)
          (try clear r1_w4); (try clear f1_w4)
          (try clear r2_w4); (try clear f2_w4)
          (try clear r3_w4); (try clear f3_w4)
          (try clear r4_w4); (try clear f4_w4)
          go_wp2_with (first | (go_at_call 11; refine (has_any jx jy ja jb p q _ _ jh j1 j2 j3 j4 hp hq).mono ?_; rintro e w6 ⟨rfl, b_w6⟩) | (go_at_call 14; refine (lives02 _).mono ?_; rintro e w7 ⟨rfl, b_w7⟩))
          go_ret
          exact ⟨rfl, by first | exact a_w5.trans (b_w6.trans b_w7) | exact a_w5.trans b_w7⟩
end Go.Proofs.Ytddmhonhajfehaa
