/- cells: CellsXs, CellsWidth, walked. -/
import Derived.Test.YtimplngemjdodaaDoorCelF
import Derived.Test.YtimplngemjdodaaDoorInts
import Derived.BigGuardPart
namespace Go.Proofs.YtimplngemjdodaaDoor
set_option linter.unusedSimpArgs false
set_option linter.unusedVariables false
set_option linter.unusedSectionVars false
open Go.RowKit

theorem CelsOk.take {l : Cels} (h : CelsOk l) (n : Nat) : CelsOk (l.take n) := fun c hc => h c (List.mem_of_mem_take hc)
set_option maxRecDepth 100000 in
set_option maxHeartbeats 1600000 in
theorem cellsXs_any (W : World) (v : Value) (l : Cels) (hv : FR celF W v l) (hN : CelsOk l) (hg : GlobU W) : Calls Tryd.prog 4 #[v] W fun e w' => e = .returned (.bool true) ∧ AnyLater W w' := by
  have HF0 := Lib.hid (cfew_any v l W hv)
  obtain ⟨m, hm⟩ : ∃ m, l.take 60 = m := ⟨_, rfl⟩
  rw [hm] at HF0
  have hml : m.length ≤ 60 := by rw [← hm, List.length_take]; omega
  have HNm : Hid (CelsOk m) := Lib.hid (by rw [← hm]; exact hN.take 60)
  have HF := Lib.hid (fun w u (h : FR celF w u m) => cfew_any u m w h)
  rw [List.take_of_length_le hml] at HF
  have HX := Lib.hid (fun w u (h : FR celF w u m) => cxs_any u m w h HNm.out (by omega))
  have HXX := Lib.hid (fun w u (h : FR celF w u m) => cxxs_any u m w h HNm.out (by omega))
  have hxl : (xsC 0 m).length ≤ 1000 := by rw [xsC_length]; omega
  generalize xsC 0 m = xs at *
  have HI := Lib.hid (fun w u v (h : RI w u xs) (k : RI w v xs) => ints_any u v xs xs w true (by simp) h k hxl hxl)
  have HL := Lib.hid (fun w (a : AnyLater W w) => celives_any w (hg.later a))
  obtain ⟨A, cap, rfl, -⟩ := hv.form
  generalize l.length = n at *
  clear hv hN hg hm hxl
  go_enter Tryd.func4, Tryd.ntmps4
  go_wp2_with fail
  refine HF0.out.mono ?_
  rintro e w1 ⟨u1, rfl, b1, o1⟩
  have H1 := Lib.hid (And.intro b1 o1.fr)
  clear b1 o1
  go_wp2_with fail
  refine (HF.out _ _ H1.out.2).mono ?_
  rintro e w2 ⟨u2, rfl, b2, o2⟩
  have H2 := Lib.hid (And.intro (H1.out.1.trans b2) (And.intro (H1.out.2.later b2) o2.fr))
  clear b2 o2
  go_wp2_with fail
  refine (HX.out _ _ H2.out.2.2).mono ?_
  rintro e w3 ⟨u3, rfl, b3, o3⟩
  have H3 := Lib.hid (And.intro (H2.out.1.trans b3) (And.intro (H2.out.2.1.later b3) o3.rn))
  clear b3 o3
  go_wp2_with fail
  refine (HXX.out _ _ H3.out.2.1).mono ?_
  rintro e w4 ⟨u4, rfl, b4, o4⟩
  have H4 := Lib.hid (And.intro (H3.out.1.trans b4) (And.intro (H3.out.2.2.later b4) o4.rn))
  clear b4 o4
  go_wp2_with fail
  refine (HI.out _ _ _ H4.out.2.1 H4.out.2.2).mono ?_
  rintro e w5 ⟨rfl, b5⟩
  have H5 := Lib.hid (H4.out.1.trans b5)
  clear b5
  go_wp2_with fail
  refine (HL.out _ H5.out).mono ?_
  rintro e w6 ⟨rfl, b6⟩
  have H6 := Lib.hid (H5.out.trans b6)
  clear b6
  go_wp2_with fail
  go_ret
  exact ⟨rfl, H6.out⟩
set_option maxRecDepth 100000 in
set_option maxHeartbeats 1600000 in
theorem cellsWidth_any (W : World) (a n r s x : Int) (hr : I32s r) (hs : I64s s) (hx : I64s x) (hg : GlobU W) : Calls Tryd.prog 5 #[.agg #[.int .i64 a, .int .i64 n, .int .i32 r, .int .i64 s], .int .i64 x] W fun e w' => e = .returned (.bool true) ∧ AnyLater W w' := by
  have HL := Lib.hid (fun w (a : AnyLater W w) => celives_any w (hg.later a))
  obtain ⟨y, hy⟩ : ∃ y, widR r s x = y := ⟨_, rfl⟩
  have hyb := widR_in r s x
  rw [hy] at hyb
  obtain ⟨y0, y1⟩ := hyb
  have HW := Lib.hid (fun w => cwidth_any a n r s x w y hy hr hs hx)
  have HX := Lib.hid (fun w => cxwidth_any a n r s x w y hy hr hs hx)
  have g0 : decide (0 ≤ y) = true := decide_eq_true y0
  have g1 : decide (y ≤ 48) = true := decide_eq_true y1
  obtain ⟨hr1, hr2⟩ := hr
  have a_W := AnyLater.refl W
  clear hy hg y0 y1 hs hx
  by_cases h9 : r = 9
  · subst h9
    have HB := Lib.hid (fun w => cblank_any a n 9 s w true (by decide))
    have HS := Lib.hid (fun w => cshow_any a n 9 s w 32 (by decide))
    go_enter Tryd.func5, Tryd.ntmps5
    go_wp2_with fail
    first | refine settle_wp (fun wS => AnyLater W wS ∧ wS.heap[W.heap.size]? = some (.cells #[.int .i64 a, .int .i64 n, .int .i32 9, .int .i64 s] 41)) ?_ ?_ | refine settle_calls (fun wS => AnyLater W wS ∧ wS.heap[W.heap.size]? = some (.cells #[.int .i64 a, .int .i64 n, .int .i32 9, .int .i64 s] 41)) ?_ ?_
    · refine ⟨?_, ?_⟩
      · repeat' (first | with_reducible assumption | with_reducible exact AnyLater.refl _ | with_reducible apply AnyLater.setCell | with_reducible apply AnyLater.later | with_reducible apply AnyLater.drewN | with_reducible apply AnyLater.drew | with_reducible apply AnyLater.alloc | ((try simp only [World.size_alloc, World.size_setCell, World.size_drew]); (try dsimp only); omega))
      · ((repeat (first | with_reducible assumption | ((with_reducible apply heap_new); (try simp only [World.size_alloc, World.size_setCell, World.size_drew, World.heap_drewN]); done) | ((with_reducible apply heap_new); (try simp only [World.size_alloc, World.size_setCell, World.size_drew, World.heap_drewN]); omega) | (with_reducible refine heap_old (by (try simp only [World.size_alloc, World.size_setCell, World.size_drew, World.heap_drewN]); omega) ?_) | (with_reducible refine heap_drew ?_) | (with_reducible refine heap_far (by omega) ?_) | (with_reducible apply heap_at))); all_goals rfl)
    rintro w1 ⟨b_w1, s0_w1⟩
    have a_w1 := a_W.trans b_w1
    have r0_w1 := own_row s0_w1
    have f0_w1 := own_free s0_w1
    have l0_w1 := own_lt s0_w1
    have z_w1 := b_w1.below.size
    refine (HW.out _).mono ?_
    rintro e w2 ⟨rfl, b_w2⟩
    have z_w2 := b_w2.below.size
    have a_w2 := a_w1.trans b_w2
    have s0_w2 := any_own b_w2 s0_w1
    have r0_w2 := own_row s0_w2
    have f0_w2 := own_free s0_w2
    have l0_w2 := own_lt s0_w2
    (try clear r0_w1); (try clear f0_w1)
    go_wp2_with fail
    apply wp_region_free (35) [⟨3, 17, .int .i64 y, false, fun v _ => v = .int .i64 y⟩, ⟨15, 29, .bool true, false, fun v _ => v = .bool true⟩, ⟨28, 42, .int .i32 32, false, fun v _ => v = .int .i32 32⟩, ⟨33, 47, .bool true, false, fun v _ => v = .bool true⟩] [] rfl (by kernel_rfl) (by kernel_rfl) (by kernel_rfl) (by simp) (by kernel_rfl)
    case hstab =>
      intro c hc
      simp only [List.mem_cons, List.not_mem_nil, or_false] at hc
      rcases hc with rfl | rfl | rfl | rfl
      · intro v x y hxy hv; exact hv
      · intro v x y hxy hv; exact hv
      · intro v x y hxy hv; exact hv
      · intro v x y hxy hv; exact hv
    case hfix =>
      intro c hc
      simp only [List.mem_cons, List.not_mem_nil, or_false] at hc
      rcases hc with rfl | rfl | rfl | rfl
      · exact .inr fun u x h => h
      · exact .inr fun u x h => h
      · exact .inr fun u x h => h
      · exact .inr fun u x h => h
    case hlex =>
      intro U hU
      have q0 := own_row (any_own hU s0_w2)
      simp only [List.map_cons, List.map_nil, CA.act, actFrom, actOp, List.lookup, Nat.reduceBEq, Nat.reduceLeDiff, Nat.reduceAdd, if_false, if_true]
      repeat (go_big_quiet_step (first | fail))
      exact wpQuiet_nil rfl
    case hstep =>
      intro j hj o ho
      have hj2 : j = 0 ∨ j = 1 ∨ j = 2 ∨ j = 3 := by simp at hj; omega
      rcases hj2 with rfl | rfl | rfl | rfl
      · cases ho
        refine ⟨rfl, fun g x hx hp => ?_⟩
        clear hp
        simp only [fillAll, Act.put, List.setIfInBounds_toArray, List.set_cons_zero, List.set_cons_succ]
        refine chain_go ?_ (free_fix (HX.out x))
        first | (simp [go_sem, execOp]; done) | simp [go_sem, execOp, hcf]
      · cases ho
        refine ⟨rfl, fun g x hx hp => ?_⟩
        clear hp
        simp only [fillAll, Act.put, List.setIfInBounds_toArray, List.set_cons_zero, List.set_cons_succ]
        refine chain_go ?_ (free_fix (HB.out x))
        first | (simp [go_sem, execOp]; done) | simp [go_sem, execOp, hcf]
      · cases ho
        refine ⟨rfl, fun g x hx hp => ?_⟩
        clear hp
        simp only [fillAll, Act.put, List.setIfInBounds_toArray, List.set_cons_zero, List.set_cons_succ]
        refine chain_go ?_ (free_fix (HS.out x))
        first | (simp [go_sem, execOp]; done) | simp [go_sem, execOp, hcf]
      · cases ho
        refine ⟨rfl, fun g x hx hp => ?_⟩
        clear hp
        simp only [fillAll, Act.put, List.setIfInBounds_toArray, List.set_cons_zero, List.set_cons_succ]
        refine chain_go ?_ (free_fix (HL.out x (a_w2.trans hx)))
        first | (simp [go_sem, execOp]; done) | simp [go_sem, execOp, hcf]
    case htail =>
      intro g u hst hne
      have b_w3 : AnyLater w2 (later u) := ⟨u, rfl⟩
      generalize later u = w3 at *
      clear u
      clear hst hne
      simp only [fillAll, Act.put, List.setIfInBounds_toArray, List.set_cons_zero, List.set_cons_succ, List.drop_succ_cons, List.drop_zero, List.drop_nil]
      have z_w3 := b_w3.below.size
      have a_w3 := a_w2.trans b_w3
      have s0_w3 := any_own b_w3 s0_w2
      have r0_w3 := own_row s0_w3
      have f0_w3 := own_free s0_w3
      have l0_w3 := own_lt s0_w3
      (try clear r0_w2); (try clear f0_w2)
      go_wp2_with fail
      go_ret
      exact ⟨rfl, a_w3⟩
  · have h9f : (r == 9) = false := by simpa using h9
    have HS := Lib.hid (fun w => cshow_any a n r s w r (by unfold showC; rw [if_neg h9]))
    by_cases h32 : r = 32
    · subst h32
      have HB := Lib.hid (fun w => cblank_any a n 32 s w true (by decide))
      clear h9 h9f
      go_enter Tryd.func5, Tryd.ntmps5
      go_wp2_with fail
      first | refine settle_wp (fun wS => AnyLater W wS ∧ wS.heap[W.heap.size]? = some (.cells #[.int .i64 a, .int .i64 n, .int .i32 32, .int .i64 s] 41)) ?_ ?_ | refine settle_calls (fun wS => AnyLater W wS ∧ wS.heap[W.heap.size]? = some (.cells #[.int .i64 a, .int .i64 n, .int .i32 32, .int .i64 s] 41)) ?_ ?_
      · refine ⟨?_, ?_⟩
        · repeat' (first | with_reducible assumption | with_reducible exact AnyLater.refl _ | with_reducible apply AnyLater.setCell | with_reducible apply AnyLater.later | with_reducible apply AnyLater.drewN | with_reducible apply AnyLater.drew | with_reducible apply AnyLater.alloc | ((try simp only [World.size_alloc, World.size_setCell, World.size_drew]); (try dsimp only); omega))
        · ((repeat (first | with_reducible assumption | ((with_reducible apply heap_new); (try simp only [World.size_alloc, World.size_setCell, World.size_drew, World.heap_drewN]); done) | ((with_reducible apply heap_new); (try simp only [World.size_alloc, World.size_setCell, World.size_drew, World.heap_drewN]); omega) | (with_reducible refine heap_old (by (try simp only [World.size_alloc, World.size_setCell, World.size_drew, World.heap_drewN]); omega) ?_) | (with_reducible refine heap_drew ?_) | (with_reducible refine heap_far (by omega) ?_) | (with_reducible apply heap_at))); all_goals rfl)
      rintro w1 ⟨b_w1, s0_w1⟩
      have a_w1 := a_W.trans b_w1
      have r0_w1 := own_row s0_w1
      have f0_w1 := own_free s0_w1
      have l0_w1 := own_lt s0_w1
      have z_w1 := b_w1.below.size
      refine (HW.out _).mono ?_
      rintro e w2 ⟨rfl, b_w2⟩
      have z_w2 := b_w2.below.size
      have a_w2 := a_w1.trans b_w2
      have s0_w2 := any_own b_w2 s0_w1
      have r0_w2 := own_row s0_w2
      have f0_w2 := own_free s0_w2
      have l0_w2 := own_lt s0_w2
      (try clear r0_w1); (try clear f0_w1)
      go_wp2_with fail
      apply wp_region_free (35) [⟨3, 17, .int .i64 y, false, fun v _ => v = .int .i64 y⟩, ⟨15, 29, .bool true, false, fun v _ => v = .bool true⟩, ⟨28, 42, .int .i32 32, false, fun v _ => v = .int .i32 32⟩, ⟨33, 47, .bool true, false, fun v _ => v = .bool true⟩] [] rfl (by kernel_rfl) (by kernel_rfl) (by kernel_rfl) (by simp) (by kernel_rfl)
      case hstab =>
        intro c hc
        simp only [List.mem_cons, List.not_mem_nil, or_false] at hc
        rcases hc with rfl | rfl | rfl | rfl
        · intro v x y hxy hv; exact hv
        · intro v x y hxy hv; exact hv
        · intro v x y hxy hv; exact hv
        · intro v x y hxy hv; exact hv
      case hfix =>
        intro c hc
        simp only [List.mem_cons, List.not_mem_nil, or_false] at hc
        rcases hc with rfl | rfl | rfl | rfl
        · exact .inr fun u x h => h
        · exact .inr fun u x h => h
        · exact .inr fun u x h => h
        · exact .inr fun u x h => h
      case hlex =>
        intro U hU
        have q0 := own_row (any_own hU s0_w2)
        simp only [List.map_cons, List.map_nil, CA.act, actFrom, actOp, List.lookup, Nat.reduceBEq, Nat.reduceLeDiff, Nat.reduceAdd, if_false, if_true]
        repeat (go_big_quiet_step (first | fail))
        exact wpQuiet_nil rfl
      case hstep =>
        intro j hj o ho
        have hj2 : j = 0 ∨ j = 1 ∨ j = 2 ∨ j = 3 := by simp at hj; omega
        rcases hj2 with rfl | rfl | rfl | rfl
        · cases ho
          refine ⟨rfl, fun g x hx hp => ?_⟩
          clear hp
          simp only [fillAll, Act.put, List.setIfInBounds_toArray, List.set_cons_zero, List.set_cons_succ]
          refine chain_go ?_ (free_fix (HX.out x))
          first | (simp [go_sem, execOp]; done) | simp [go_sem, execOp, hcf]
        · cases ho
          refine ⟨rfl, fun g x hx hp => ?_⟩
          clear hp
          simp only [fillAll, Act.put, List.setIfInBounds_toArray, List.set_cons_zero, List.set_cons_succ]
          refine chain_go ?_ (free_fix (HB.out x))
          first | (simp [go_sem, execOp]; done) | simp [go_sem, execOp, hcf]
        · cases ho
          refine ⟨rfl, fun g x hx hp => ?_⟩
          clear hp
          simp only [fillAll, Act.put, List.setIfInBounds_toArray, List.set_cons_zero, List.set_cons_succ]
          refine chain_go ?_ (free_fix (HS.out x))
          first | (simp [go_sem, execOp]; done) | simp [go_sem, execOp, hcf]
        · cases ho
          refine ⟨rfl, fun g x hx hp => ?_⟩
          clear hp
          simp only [fillAll, Act.put, List.setIfInBounds_toArray, List.set_cons_zero, List.set_cons_succ]
          refine chain_go ?_ (free_fix (HL.out x (a_w2.trans hx)))
          first | (simp [go_sem, execOp]; done) | simp [go_sem, execOp, hcf]
      case htail =>
        intro g u hst hne
        have b_w3 : AnyLater w2 (later u) := ⟨u, rfl⟩
        generalize later u = w3 at *
        clear u
        clear hst hne
        simp only [fillAll, Act.put, List.setIfInBounds_toArray, List.set_cons_zero, List.set_cons_succ, List.drop_succ_cons, List.drop_zero, List.drop_nil]
        have z_w3 := b_w3.below.size
        have a_w3 := a_w2.trans b_w3
        have s0_w3 := any_own b_w3 s0_w2
        have r0_w3 := own_row s0_w3
        have f0_w3 := own_free s0_w3
        have l0_w3 := own_lt s0_w3
        (try clear r0_w2); (try clear f0_w2)
        go_wp2_with fail
        go_ret
        exact ⟨rfl, a_w3⟩
    · have h32f : (r == 32) = false := by simpa using h32
      have HB := Lib.hid (fun w => cblank_any a n r s w false (by simp [h9, h32]))
      clear h9 h32
      go_enter Tryd.func5, Tryd.ntmps5
      go_wp2_with fail
      first | refine settle_wp (fun wS => AnyLater W wS ∧ wS.heap[W.heap.size]? = some (.cells #[.int .i64 a, .int .i64 n, .int .i32 r, .int .i64 s] 41)) ?_ ?_ | refine settle_calls (fun wS => AnyLater W wS ∧ wS.heap[W.heap.size]? = some (.cells #[.int .i64 a, .int .i64 n, .int .i32 r, .int .i64 s] 41)) ?_ ?_
      · refine ⟨?_, ?_⟩
        · repeat' (first | with_reducible assumption | with_reducible exact AnyLater.refl _ | with_reducible apply AnyLater.setCell | with_reducible apply AnyLater.later | with_reducible apply AnyLater.drewN | with_reducible apply AnyLater.drew | with_reducible apply AnyLater.alloc | ((try simp only [World.size_alloc, World.size_setCell, World.size_drew]); (try dsimp only); omega))
        · ((repeat (first | with_reducible assumption | ((with_reducible apply heap_new); (try simp only [World.size_alloc, World.size_setCell, World.size_drew, World.heap_drewN]); done) | ((with_reducible apply heap_new); (try simp only [World.size_alloc, World.size_setCell, World.size_drew, World.heap_drewN]); omega) | (with_reducible refine heap_old (by (try simp only [World.size_alloc, World.size_setCell, World.size_drew, World.heap_drewN]); omega) ?_) | (with_reducible refine heap_drew ?_) | (with_reducible refine heap_far (by omega) ?_) | (with_reducible apply heap_at))); all_goals rfl)
      rintro w1 ⟨b_w1, s0_w1⟩
      have a_w1 := a_W.trans b_w1
      have r0_w1 := own_row s0_w1
      have f0_w1 := own_free s0_w1
      have l0_w1 := own_lt s0_w1
      have z_w1 := b_w1.below.size
      refine (HW.out _).mono ?_
      rintro e w2 ⟨rfl, b_w2⟩
      have z_w2 := b_w2.below.size
      have a_w2 := a_w1.trans b_w2
      have s0_w2 := any_own b_w2 s0_w1
      have r0_w2 := own_row s0_w2
      have f0_w2 := own_free s0_w2
      have l0_w2 := own_lt s0_w2
      (try clear r0_w1); (try clear f0_w1)
      go_wp2_with fail
      apply wp_region_free (35) [⟨3, 17, .int .i64 y, false, fun v _ => v = .int .i64 y⟩, ⟨15, 29, .bool false, false, fun v _ => v = .bool false⟩, ⟨28, 42, .int .i32 r, false, fun v _ => v = .int .i32 r⟩, ⟨33, 47, .bool true, false, fun v _ => v = .bool true⟩] [] rfl (by kernel_rfl) (by kernel_rfl) (by kernel_rfl) (by simp) (by kernel_rfl)
      case hstab =>
        intro c hc
        simp only [List.mem_cons, List.not_mem_nil, or_false] at hc
        rcases hc with rfl | rfl | rfl | rfl
        · intro v x y hxy hv; exact hv
        · intro v x y hxy hv; exact hv
        · intro v x y hxy hv; exact hv
        · intro v x y hxy hv; exact hv
      case hfix =>
        intro c hc
        simp only [List.mem_cons, List.not_mem_nil, or_false] at hc
        rcases hc with rfl | rfl | rfl | rfl
        · exact .inr fun u x h => h
        · exact .inr fun u x h => h
        · exact .inr fun u x h => h
        · exact .inr fun u x h => h
      case hlex =>
        intro U hU
        have q0 := own_row (any_own hU s0_w2)
        simp only [List.map_cons, List.map_nil, CA.act, actFrom, actOp, List.lookup, Nat.reduceBEq, Nat.reduceLeDiff, Nat.reduceAdd, if_false, if_true]
        repeat (go_big_quiet_step (first | fail))
        exact wpQuiet_nil rfl
      case hstep =>
        intro j hj o ho
        have hj2 : j = 0 ∨ j = 1 ∨ j = 2 ∨ j = 3 := by simp at hj; omega
        rcases hj2 with rfl | rfl | rfl | rfl
        · cases ho
          refine ⟨rfl, fun g x hx hp => ?_⟩
          clear hp
          simp only [fillAll, Act.put, List.setIfInBounds_toArray, List.set_cons_zero, List.set_cons_succ]
          refine chain_go ?_ (free_fix (HX.out x))
          first | (simp [go_sem, execOp]; done) | simp [go_sem, execOp, hcf]
        · cases ho
          refine ⟨rfl, fun g x hx hp => ?_⟩
          clear hp
          simp only [fillAll, Act.put, List.setIfInBounds_toArray, List.set_cons_zero, List.set_cons_succ]
          refine chain_go ?_ (free_fix (HB.out x))
          first | (simp [go_sem, execOp]; done) | simp [go_sem, execOp, hcf]
        · cases ho
          refine ⟨rfl, fun g x hx hp => ?_⟩
          clear hp
          simp only [fillAll, Act.put, List.setIfInBounds_toArray, List.set_cons_zero, List.set_cons_succ]
          refine chain_go ?_ (free_fix (HS.out x))
          first | (simp [go_sem, execOp]; done) | simp [go_sem, execOp, hcf]
        · cases ho
          refine ⟨rfl, fun g x hx hp => ?_⟩
          clear hp
          simp only [fillAll, Act.put, List.setIfInBounds_toArray, List.set_cons_zero, List.set_cons_succ]
          refine chain_go ?_ (free_fix (HL.out x (a_w2.trans hx)))
          first | (simp [go_sem, execOp]; done) | simp [go_sem, execOp, hcf]
      case htail =>
        intro g u hst hne
        have b_w3 : AnyLater w2 (later u) := ⟨u, rfl⟩
        generalize later u = w3 at *
        clear u
        clear hst hne
        simp only [fillAll, Act.put, List.setIfInBounds_toArray, List.set_cons_zero, List.set_cons_succ, List.drop_succ_cons, List.drop_zero, List.drop_nil]
        have z_w3 := b_w3.below.size
        have a_w3 := a_w2.trans b_w3
        have s0_w3 := any_own b_w3 s0_w2
        have r0_w3 := own_row s0_w3
        have f0_w3 := own_free s0_w3
        have l0_w3 := own_lt s0_w3
        (try clear r0_w2); (try clear f0_w2)
        go_wp2_with fail
        go_ret
        exact ⟨rfl, a_w3⟩
end Go.Proofs.YtimplngemjdodaaDoor
