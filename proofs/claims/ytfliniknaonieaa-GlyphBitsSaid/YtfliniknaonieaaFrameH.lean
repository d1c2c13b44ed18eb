/- frame: does, which does an act to both frames: two rectangles at once. -/
import Derived.Test.YtfliniknaonieaaFrameG
namespace Go.Proofs.Ytfliniknaonieaa
set_option linter.unusedSimpArgs false
set_option linter.unusedVariables false
set_option linter.unusedSectionVars false
open Go.RowKit

section
variable {Fr : World → Nat → FM → (Nat → Prop) → Prop}
set_option maxRecDepth 100000 in
set_option maxHeartbeats 6400000 in
theorem does_dots (F : FSays Fr) (W0 w : World) (a p : Nat) (m : FM) (S T : Nat → Prop) (A : AM) (hk : A.kind = 3) (h : Both Fr w a p m S T) (hA : A.Ok W0) :
    Calls Try.prog 13 #[ptr a, ptr p, actV A] w fun e w' => e = .returned (.bool true) ∧ Did Fr w a p m S T w' := by
  obtain ⟨Ad, cap, hv, _⟩ := hA.l
  obtain ⟨kind, n, r, c, v, l⟩ := A
  simp only at hk hv
  have HA := Lib.hid hA
  have HB := Lib.hid h
  have HF := Lib.hid F
  have nS : ¬ S w.heap.size := fun hs => by have := F.below h.f _ hs; omega
  have nT : ¬ T w.heap.size := fun hs => by have := h.x.below _ hs; omega
  obtain ⟨cn, hcn⟩ : ∃ n, cntA r m.w m.rows.length = n := ⟨_, rfl⟩
  have HC := Lib.hid hcn
  obtain ⟨cb1, cb2⟩ := cnt_small (r := r) h.wide h.high
  rw [hcn] at cb1 cb2
  have hDN : dotsN [r, r] m = cn + cn := by unfold dotsN; rw [List.map_cons, List.map_cons, List.map_nil, List.sum_cons, List.sum_cons, List.sum_nil, hcn]; omega
  have HDN := Lib.hid hDN
  clear hA h F hcn hDN
  unfold actV ptr
  subst hv
  subst hk
  go_enter Try.func13, Try.ntmps13
  go_wp2_with fail
  first | refine settle_wp (fun wS => AnyLater w wS ∧ wS.heap[w.heap.size]? = some (.cells #[.int .i64 3, .int .i64 n, .int .i64 r.x, .int .i64 r.y, .int .i64 r.a, .int .i64 r.b, .int .u32 c, .slice Ad l.length cap] 36)) ?_ ?_ | refine settle_calls (fun wS => AnyLater w wS ∧ wS.heap[w.heap.size]? = some (.cells #[.int .i64 3, .int .i64 n, .int .i64 r.x, .int .i64 r.y, .int .i64 r.a, .int .i64 r.b, .int .u32 c, .slice Ad l.length cap] 36)) ?_ ?_
  · refine ⟨?_, ?_⟩
    · repeat' (first | with_reducible assumption | with_reducible exact AnyLater.refl _ | with_reducible apply AnyLater.setCell | with_reducible apply AnyLater.later | with_reducible apply AnyLater.drewN | with_reducible apply AnyLater.drew | with_reducible apply AnyLater.alloc | ((try simp only [World.size_alloc, World.size_setCell, World.size_drew]); (try dsimp only); omega))
    · ((repeat (first | with_reducible assumption | ((with_reducible apply heap_new); (try simp only [World.size_alloc, World.size_setCell, World.size_drew, World.heap_drewN]); done) | ((with_reducible apply heap_new); (try simp only [World.size_alloc, World.size_setCell, World.size_drew, World.heap_drewN]); omega) | (with_reducible refine heap_old (by (try simp only [World.size_alloc, World.size_setCell, World.size_drew, World.heap_drewN]); omega) ?_) | (with_reducible refine heap_drew ?_) | (with_reducible refine heap_far (by omega) ?_) | (with_reducible apply heap_at))); all_goals rfl)
  rintro w1 ⟨b_w1, s0_w1⟩
  have a_w1 := b_w1
  have r0_w1 := own_row s0_w1
  have f0_w1 := own_free s0_w1
  have l0_w1 := own_lt s0_w1
  have z_w1 := b_w1.below.size
  have hB1 : AnyLater w (w1.drew.alloc (.cells #[.int .i64 r.x, .int .i64 r.y, .int .i64 r.a, .int .i64 r.b, .int .i64 r.x, .int .i64 r.y, .int .i64 r.a, .int .i64 r.b] 32)) := b_w1.drew.alloc _
  have hB2 : AnyLater w1 (w1.drew.alloc (.cells #[.int .i64 r.x, .int .i64 r.y, .int .i64 r.a, .int .i64 r.b, .int .i64 r.x, .int .i64 r.y, .int .i64 r.a, .int .i64 r.b] 32)) := (AnyLater.refl w1).drew.alloc _
  have hBn : (w1.drew.alloc (.cells #[.int .i64 r.x, .int .i64 r.y, .int .i64 r.a, .int .i64 r.b, .int .i64 r.x, .int .i64 r.y, .int .i64 r.a, .int .i64 r.b] 32)).heap[w1.heap.size]? = some (.cells #[.int .i64 r.x, .int .i64 r.y, .int .i64 r.a, .int .i64 r.b, .int .i64 r.x, .int .i64 r.y, .int .i64 r.a, .int .i64 r.b] 32) := heap_new (by simp)
  have HW := Lib.hid (And.intro hB1 (And.intro hB2 hBn))
  clear hB1 hB2 hBn
  apply wp_region_acts 24 [(5, .slice (some ⟨w1.heap.size, 0, none⟩) 2 2), (8, .int .i64 (cn + cn)), (14, .int .i64 cn), (20, .int .i64 cn)] (fun w' => w'.heap[w.heap.size]? = some (.cells #[.int .i64 3, .int .i64 n, .int .i64 r.x, .int .i64 r.y, .int .i64 r.a, .int .i64 r.b, .int .u32 c, .slice Ad l.length cap] 36))
    (stL [fun w' => w' = w1.drew, fun w' => w' = w1.drew.alloc (.cells #[.int .i64 r.x, .int .i64 r.y, .int .i64 r.a, .int .i64 r.b, .int .i64 r.x, .int .i64 r.y, .int .i64 r.a, .int .i64 r.b] 32), fun w' => Keeps S (w1.drew.alloc (.cells #[.int .i64 r.x, .int .i64 r.y, .int .i64 r.a, .int .i64 r.b, .int .i64 r.x, .int .i64 r.y, .int .i64 r.a, .int .i64 r.b] 32)) w' ∧ ∃ S2, Fr w' a (dotsM [r, r] c m) S2 ∧ Grown (w1.drew.alloc (.cells #[.int .i64 r.x, .int .i64 r.y, .int .i64 r.a, .int .i64 r.b, .int .i64 r.x, .int .i64 r.y, .int .i64 r.a, .int .i64 r.b] 32)) S S2,
      fun w' => ∃ wm, Keeps S (w1.drew.alloc (.cells #[.int .i64 r.x, .int .i64 r.y, .int .i64 r.a, .int .i64 r.b, .int .i64 r.x, .int .i64 r.y, .int .i64 r.a, .int .i64 r.b] 32)) wm ∧ (∃ S2, Fr wm a (dotsM [r, r] c m) S2 ∧ Grown (w1.drew.alloc (.cells #[.int .i64 r.x, .int .i64 r.y, .int .i64 r.a, .int .i64 r.b, .int .i64 r.x, .int .i64 r.y, .int .i64 r.a, .int .i64 r.b] 32)) S S2) ∧ Keeps T wm w' ∧ RX w' p (fillM r c m) T, fun w' => Did Fr w a p m S T w']) (by kernel_rfl) (by kernel_rfl) (by kernel_rfl) (heap_drew s0_w1) rfl
  case hlex =>
    intro U hU
    have q0 := own_row hU
    simp only [actFrom, actOp, List.lookup, Nat.reduceBEq, Nat.reduceLeDiff, Nat.reduceAdd, if_false, if_true]
    repeat (go_big_quiet_step (fail))
    exact wpQuiet_nil rfl
  case hact =>
    intro j hj o ho
    have hj3 : j = 0 ∨ j = 1 ∨ j = 2 ∨ j = 3 := by simp at hj; omega
    rcases hj3 with rfl | rfl | rfl | rfl
    · cases ho
      refine ⟨rfl, fun w' hC hS => ?_⟩
      obtain rfl : w' = w1.drew := hS
      refine act_value (w' := w1.drew.alloc (.cells #[.int .i64 r.x, .int .i64 r.y, .int .i64 r.a, .int .i64 r.b, .int .i64 r.x, .int .i64 r.y, .int .i64 r.a, .int .i64 r.b] 32)) (by simp [go_sem, execOp]) ⟨any_own HW.out.2.1 s0_w1, rfl⟩
    · cases ho
      refine ⟨rfl, fun w' hC hS => ?_⟩
      obtain rfl : w' = w1.drew.alloc (.cells #[.int .i64 r.x, .int .i64 r.y, .int .i64 r.a, .int .i64 r.b, .int .i64 r.x, .int .i64 r.y, .int .i64 r.a, .int .i64 r.b] 32) := hS
      refine act_call (f := 41) (args := #[ptr a, .slice (some ⟨w1.heap.size, 0, none⟩) 2 2, .int .u32 c]) (by simp [go_sem, execOp, ptr]) ?_
      refine (HF.out.dots (.slice (some ⟨w1.heap.size, 0, none⟩) 2 2) [r, r] c (cn + cn) HDN.out (HF.out.later HB.out.f HW.out.1) HB.out.small ?_ ?_ ?_ (by simp) HA.out.c).mono ?_
      · refine ⟨w1.heap.size, 2, rfl, own_lt HW.out.2.2, fun j hj => ?_⟩
        have e : j = 0 ∨ j = 1 := by simp at hj; omega
        rcases e with rfl | rfl
        · refine ⟨?_, ?_, ?_, ?_⟩ <;> (rw [own_row HW.out.2.2]; rfl)
        · refine ⟨?_, ?_, ?_, ?_⟩ <;> (rw [own_row HW.out.2.2]; rfl)
      · intro b off n2 c2 e hs
        cases e
        have := HF.out.below HB.out.f _ hs
        omega
      · intro q hq
        simp at hq
        rw [hq]; exact HA.out.r
      · rintro e w2 ⟨rfl, k2, S2, f2, g2⟩
        exact ⟨rfl, (k2.block _ (own_lt hC) nS).trans hC, k2, S2, f2, g2⟩
    · cases ho
      refine ⟨rfl, fun w' hC hS => ?_⟩
      obtain ⟨k2, S2, f2, g2⟩ := hS
      refine act_call (f := 28) (args := #[ptr p, rtV r, .int .u32 c]) (by simp [go_sem, execOp, ptr, rtV]) ?_
      have hx2 := (HB.out.x.any HW.out.1).apart k2 HB.out.ap.symm
      refine (xfill_any w' p m T r c cn hx2 HA.out.r (Nat.le_trans HB.out.wide (by decide)) (Nat.le_trans HB.out.high (by decide)) ⟨HB.out.n0, by have := HB.out.n1; omega⟩ HC.out).mono ?_
      rintro e w3 ⟨rfl, k3, x3⟩
      exact ⟨rfl, (k3.block _ (own_lt hC) nT).trans hC, w', k2, ⟨S2, f2, g2⟩, k3, x3⟩
    · cases ho
      refine ⟨rfl, fun w' hC hS => ?_⟩
      obtain ⟨wm, k2, ⟨S2, f2, g2⟩, k3, x3⟩ := hS
      refine act_call (f := 28) (args := #[ptr p, rtV r, .int .u32 c]) (by simp [go_sem, execOp, ptr, rtV]) ?_
      have hcn2 : cntA r (fillM r c m).w (fillM r c m).rows.length = cn := by show cntA r m.w (fillA r c m.rows).length = cn; rw [fillA_len]; exact HC.out
      refine (xfill_any w' p (fillM r c m) T r c cn x3 HA.out.r (Nat.le_trans HB.out.wide (by decide)) (by show (fillA r c m.rows).length ≤ _; rw [fillA_len]; exact Nat.le_trans HB.out.high (by decide)) ⟨?_, ?_⟩ hcn2).mono ?_
      · show 0 ≤ m.n + cntA r m.w m.rows.length
        rw [HC.out]; have := HB.out.n0; omega
      · show m.n + cntA r m.w m.rows.length ≤ _
        rw [HC.out]; have := HB.out.n1; omega
      · rintro e w3 ⟨rfl, k4, x4⟩
        refine ⟨rfl, (k4.block _ (own_lt hC) nT).trans hC, did_two HF.out HB.out HW.out.1 k2 f2 g2 (k3.trans k4) x4 (Grown.refl _ _) (fillM_ok (fillM_ok HB.out.ok)) rfl ?_ ?_ ?_⟩
        · show (fillA r c (fillA r c m.rows)).length = _
          rw [fillA_len, fillA_len]
        · show m.n ≤ m.n + cntA r m.w m.rows.length + cntA r m.w (fillA r c m.rows).length
          rw [fillA_len, HC.out]; omega
        · show m.n + cntA r m.w m.rows.length + cntA r m.w (fillA r c m.rows).length ≤ _
          rw [fillA_len, HC.out]; omega
  case htail =>
    intro w' hC hS
    have HD := Lib.hid hS
    clear hS
    simp only [List.drop_succ_cons, List.drop_zero, List.drop_nil]
    go_wp2_with fail
    go_ret
    exact ⟨rfl, HD.out⟩
end
end Go.Proofs.Ytfliniknaonieaa
