/- fault: the law that an error about another one keeps its code, and has one place more. -/
import Derived.Test.YtfocpgnhbabeiaaDoorFaultP
namespace Go.Proofs.YtfocpgnhbabeiaaDoor
set_option linter.unusedSimpArgs false
set_option linter.unusedVariables false
set_option linter.unusedSectionVars false
open Go.RowKit Go.Extern.Stop Go.Stop Go.Extern

set_option maxRecDepth 100000 in
set_option maxHeartbeats 1600000 in
theorem keeps_zero (x : Int) (v0 : Value) (zs : List Int) (w : World) (hi : Ints w w.heap.size v0 zs) (hg : Glob w) :
    Calls Tryd.prog 4 #[.int .i64 x, v0, .int .i64 0] w fun e w' => e = .returned (.bool true) ∧ AnyLater w w' := by
  have C1 := Lib.hid (few_any v0 zs w hi)
  have HG := Lib.hid hg
  have hl : (zs.take 20).length ≤ 20 := by rw [List.length_take]; omega
  clear hi hg
  generalize zs.take 20 = ys at *
  go_enter Tryd.func4, Tryd.ntmps4
  go_wp2_with fail
  refine C1.out.mono ?_
  rintro e w1 ⟨v1, rfl, a_w1, o1⟩
  obtain ⟨a, cp, rfl⟩ := own_form o1
  have O1 := Lib.hid o1
  clear o1 C1
  go_wp2_with fail
  refine (made_zero _ ys w1 _ O1.out hl).mono ?_
  rintro e w3 ⟨rfl, b_w3⟩
  have a_w3 := a_w1.trans b_w3
  clear b_w3 O1
  go_wp2_with fail
  refine (of_nil _ _).mono ?_
  rintro e w4 ⟨rfl, rfl⟩
  go_wp2_with fail
  refine (lives_any _ (HG.out.later a_w3)).mono ?_
  rintro e w8 ⟨rfl, b_w8⟩
  have z_w8 := b_w8.below.size
  have a_w8 := a_w3.trans b_w8
  go_wp2_with fail
  go_ret
  exact ⟨rfl, a_w8⟩

set_option maxRecDepth 100000 in
set_option maxHeartbeats 3200000 in
theorem keeps_some (x : Int) (v0 : Value) (zs ys : List Int) (m : Nat) (c : Int) (w : World) (hi : Ints w w.heap.size v0 zs) (hg : Glob w) (hc : (c == 0) = false) (hy : zs.take 20 = ys) (hl : ys.length = m + 1) (hm : m < 20) :
    Calls Tryd.prog 4 #[.int .i64 x, v0, .int .i64 c] w fun e w' => e = .returned (.bool true) ∧ AnyLater w w' := by
  have C1 := Lib.hid (show Calls Tryd.prog 6 #[v0] w (Row w ys) by rw [← hy]; exact few_any v0 zs w hi)
  have HG := Lib.hid hg
  have HN := Lib.hid hl
  clear hi hg hy hl
  go_enter Tryd.func4, Tryd.ntmps4
  go_wp2_with fail
  refine C1.out.mono ?_
  rintro e w1 ⟨v1, rfl, a_w1, o1⟩
  obtain ⟨a, cp, rfl⟩ := own_form o1
  have O1 := Lib.hid o1
  clear o1 C1
  go_wp2_with fail
  refine (made_code _ ys c w1 _ O1.out (by rw [HN.out]; omega) hc).mono ?_
  rintro e w3 ⟨v3, rfl, b_w3, hc3⟩
  have a_w3 := a_w1.trans b_w3
  obtain ⟨tq, vq, rfl⟩ := hc3.iface
  have HC := Lib.hid hc3
  clear b_w3 hc3 O1
  go_wp2_with fail
  refine (of_chain x ys c _ w3 HC.out).mono ?_
  rintro e w4 ⟨rfl, b_w4, sf⟩
  have a_w4 := a_w3.trans b_w4
  have hf : Chain w4 (x :: ys) c _ := ⟨_, _, rfl, sf, HC.out.later b_w4⟩
  have HF := Lib.hid (And.intro hf (HC.out.later b_w4))
  have hlen : (x :: ys).length = m + 1 + 1 := by rw [List.length_cons, HN.out]
  have HL := Lib.hid hlen
  clear b_w4 hf HC hlen
  generalize w3.heap.size = bf at *
  go_wp2_with fail
  refine (Path_chain ys c _ w4 (HG.out.later a_w4) HF.out.2 (by rw [HN.out]; omega)).mono ?_
  rintro e w5 ⟨v5, rfl, b_w5, o5⟩
  have a_w5 := a_w4.trans b_w5
  obtain ⟨g1, c1, cur1, rfl, s0_w5, k1⟩ := own_cells o5 HN.out
  have K1 := Lib.hid k1
  clear o5 k1
  go_wp2_with fail
  refine (Path_chain (x :: ys) c _ w5 (HG.out.later a_w5) (HF.out.1.later b_w5) (by rw [HL.out]; omega)).mono ?_
  rintro e w6 ⟨v6, rfl, b_w6, o6⟩
  obtain ⟨g2, c2, cur2, rfl, s1_w6, k2⟩ := own_cells o6 HL.out
  have K2 := Lib.hid k2
  have b46 := b_w5.trans b_w6
  have s0_w6 := any_own b_w6 s0_w5
  have s2_w6 := any_own b46 sf
  have a_w6 := a_w5.trans b_w6
  clear o6 k2 b_w5 b_w6 sf s0_w5
  go_wp2_with fail
  refine (code_in (x :: ys) c _ w4 w6 (HG.out.later a_w4) HF.out.1 b46 (by rw [HL.out]; omega)).mono ?_
  rintro e w7 ⟨rfl, b_w7⟩
  have z_w7 := b_w7.below.size
  have a_w7 := a_w6.trans b_w7
  have s0_w7 := any_own b_w7 s0_w6
  have s1_w7 := any_own b_w7 s1_w6
  have s2_w7 := any_own b_w7 s2_w6
  have r0_w7 := own_row s0_w7
  have f0_w7 := own_free s0_w7
  have l0_w7 := own_lt s0_w7
  have r1_w7 := own_row s1_w7
  have f1_w7 := own_free s1_w7
  have l1_w7 := own_lt s1_w7
  have r2_w7 := own_row s2_w7
  have f2_w7 := own_free s2_w7
  have l2_w7 := own_lt s2_w7
  (try clear r0_w6); (try clear f0_w6)
  (try clear r1_w6); (try clear f1_w6)
  (try clear r2_w6); (try clear f2_w6)
  go_wp2_with fail
  refine (code_in ys c _ w4 w7 (HG.out.later a_w4) HF.out.2 (b46.trans b_w7) (by rw [HN.out]; omega)).mono ?_
  rintro e w8 ⟨rfl, b_w8⟩
  have z_w8 := b_w8.below.size
  have a_w8 := a_w7.trans b_w8
  have s0_w8 := any_own b_w8 s0_w7
  have s1_w8 := any_own b_w8 s1_w7
  have s2_w8 := any_own b_w8 s2_w7
  have r0_w8 := own_row s0_w8
  have f0_w8 := own_free s0_w8
  have l0_w8 := own_lt s0_w8
  have r1_w8 := own_row s1_w8
  have f1_w8 := own_free s1_w8
  have l1_w8 := own_lt s1_w8
  have r2_w8 := own_row s2_w8
  have f2_w8 := own_free s2_w8
  have l2_w8 := own_lt s2_w8
  (try clear r0_w7); (try clear f0_w7)
  (try clear r1_w7); (try clear f1_w7)
  (try clear r2_w7); (try clear f2_w7)
  have b48 := (b46.trans b_w7).trans b_w8
  clear b46 b_w7 b_w8
  go_wp2_with fail
  refine (Is_chain (x :: ys) c c _ w8 true (by simp) (HF.out.1.later b48)).mono ?_
  rintro e w' ⟨rfl, rfl⟩
  have e0 : cur2[0]? = some (.int .i64 x) := K2.out 0 (by simp)
  have p0 : (0 : Int) < (m : Int) + 1 + 1 := by omega
  go_wp2_with fail
  refine (depth_in (x :: ys) (m + 1 + 1) c _ w4 w8 HF.out.1 b48 HL.out (by omega)).mono ?_
  rintro e w9 ⟨rfl, b_w9⟩
  have z_w9 := b_w9.below.size
  have a_w9 := a_w8.trans b_w9
  have s0_w9 := any_own b_w9 s0_w8
  have s1_w9 := any_own b_w9 s1_w8
  have s2_w9 := any_own b_w9 s2_w8
  have r0_w9 := own_row s0_w9
  have f0_w9 := own_free s0_w9
  have l0_w9 := own_lt s0_w9
  have r1_w9 := own_row s1_w9
  have f1_w9 := own_free s1_w9
  have l1_w9 := own_lt s1_w9
  have r2_w9 := own_row s2_w9
  have f2_w9 := own_free s2_w9
  have l2_w9 := own_lt s2_w9
  (try clear r0_w8); (try clear f0_w8)
  (try clear r1_w8); (try clear f1_w8)
  (try clear r2_w8); (try clear f2_w8)
  go_wp2_with fail
  refine (depth_in ys (m + 1) c _ w4 w9 HF.out.2 (b48.trans b_w9) HN.out (by omega)).mono ?_
  rintro e w10 ⟨rfl, b_w10⟩
  have z_w10 := b_w10.below.size
  have a_w10 := a_w9.trans b_w10
  have s0_w10 := any_own b_w10 s0_w9
  have s1_w10 := any_own b_w10 s1_w9
  have s2_w10 := any_own b_w10 s2_w9
  have r0_w10 := own_row s0_w10
  have f0_w10 := own_free s0_w10
  have l0_w10 := own_lt s0_w10
  have r1_w10 := own_row s1_w10
  have f1_w10 := own_free s1_w10
  have l1_w10 := own_lt s1_w10
  have r2_w10 := own_row s2_w10
  have f2_w10 := own_free s2_w10
  have l2_w10 := own_lt s2_w10
  (try clear r0_w9); (try clear f0_w9)
  (try clear r1_w9); (try clear f1_w9)
  (try clear r2_w9); (try clear f2_w9)
  have b410 := (b48.trans b_w9).trans b_w10
  clear b48 b_w9 b_w10
  go_wp2_with fail
  go_loopg [11] (m + 1) (fun k i wr => ∃ j : Nat, k = m + 1 - j ∧ j ≤ m + 1 ∧ i = .int .i64 j ∧ AnyLater w10 wr)
  case atStart => exact ⟨0, by omega, by omega, rfl, AnyLater.refl _⟩
  case round =>
    obtain ⟨j, hk, hj, rfl, b_wr⟩ := hrel
    have s0_wr := any_own b_wr s0_w10
    have s1_wr := any_own b_wr s1_w10
    have s2_wr := any_own b_wr s2_w10
    have a_wr := a_w10.trans b_wr
    by_cases hlt : j < m + 1
    · have lj : j < ys.length := by rw [HN.out]; exact hlt
      have e1 := K1.out j lj
      have e2 : cur2[j + 1]? = some (.int .i64 ys[j]) := K2.out (j + 1) (by simpa using lj)
      have i1 : (j : Int) < (m : Int) + 1 := by omega
      have i2 : (j : Int) + 1 < (m : Int) + 1 + 1 := by omega
      have i3 : (0 : Int) ≤ (j : Int) + 1 := by omega
      have i4 : ((j : Int) + 1).toNat = j + 1 := by omega
      have i5 : IntKind.i64.wrap ((j : Int) + 1) = (j : Int) + 1 := IntWalk.i64_in _ (by omega)
      go_wp2_with fail
      apply wp_region_mem (10) [] (by kernel_rfl) (by kernel_rfl) (by simp)
      case hstab =>
        intro e he v x y hxy hv
        simp only [List.mem_cons, List.not_mem_nil, or_false] at he
      case hlex =>
        intro U
        have q0 := fun (v : Later (later U)) => own_row (any_own ⟨v, rfl⟩ (any_own ⟨U, rfl⟩ s0_wr))
        have q1 := fun (v : Later (later U)) => own_row (any_own ⟨v, rfl⟩ (any_own ⟨U, rfl⟩ s1_wr))
        have q2 := fun (v : Later (later U)) => own_row (any_own ⟨v, rfl⟩ (any_own ⟨U, rfl⟩ s2_wr))
        simp only [absFrom, absOp, idx, List.map_cons, List.map_nil, List.contains_cons, List.contains_nil, Nat.reduceBEq, Bool.or_false, Bool.false_or, Bool.true_or, Bool.or_true, Bool.false_eq_true, Nat.reduceLeDiff, Nat.reduceAdd, if_false, if_true]
        repeat (go_big_quiet_step (first | fail))
        exact wpQuiet_nil rfl
      case hown =>
        intro e he o ho
        simp only [List.mem_cons, List.not_mem_nil, or_false] at he
      case htail =>
        intro g u hst hne
        have b_w11 : AnyLater wr (later u) := ⟨u, rfl⟩
        generalize later u = w11 at *
        clear u
        clear hst hne
        simp only [fillAll, Act.put, List.setIfInBounds_toArray, List.set_cons_zero, List.set_cons_succ, List.drop_succ_cons, List.drop_zero]
        have z_w11 := b_w11.below.size
        have a_w11 := a_wr.trans b_w11
        have s0_w11 := any_own b_w11 s0_wr
        have s1_w11 := any_own b_w11 s1_wr
        have s2_w11 := any_own b_w11 s2_wr
        have r0_w11 := own_row s0_w11
        have f0_w11 := own_free s0_w11
        have l0_w11 := own_lt s0_w11
        have r1_w11 := own_row s1_w11
        have f1_w11 := own_free s1_w11
        have l1_w11 := own_lt s1_w11
        have r2_w11 := own_row s2_w11
        have f2_w11 := own_free s2_w11
        have l2_w11 := own_lt s2_w11
        (try clear r0_wr); (try clear f0_wr)
        (try clear r1_wr); (try clear f1_wr)
        (try clear r2_wr); (try clear f2_wr)
        clear i4 i5
        go_wp2_with fail
        go_roundg (m + 1 - (j + 1))
        case measure => omega
        case rel => exact ⟨j + 1, rfl, hlt, by go_num, b_wr.trans b_w11⟩
    · obtain rfl : j = m + 1 := by omega
      go_wp2_with fail
      first | refine settle_wp (fun wS => AnyLater wr wS ∧ wS.heap[wr.heap.size]? = some (.cells #[.pointer none] 41)) ?_ ?_ | refine settle_calls (fun wS => AnyLater wr wS ∧ wS.heap[wr.heap.size]? = some (.cells #[.pointer none] 41)) ?_ ?_
      · refine ⟨?_, ?_⟩
        · repeat' (first | with_reducible assumption | with_reducible exact AnyLater.refl _ | with_reducible apply AnyLater.setCell | with_reducible apply AnyLater.later | with_reducible apply AnyLater.drewN | with_reducible apply AnyLater.drew | with_reducible apply AnyLater.alloc | ((try simp only [World.size_alloc, World.size_setCell, World.size_drew]); (try dsimp only); omega))
        · ((repeat (first | with_reducible assumption | ((with_reducible apply heap_new); (try simp only [World.size_alloc, World.size_setCell, World.size_drew, World.heap_drewN]); done) | ((with_reducible apply heap_new); (try simp only [World.size_alloc, World.size_setCell, World.size_drew, World.heap_drewN]); omega) | (with_reducible refine heap_old (by (try simp only [World.size_alloc, World.size_setCell, World.size_drew, World.heap_drewN]); omega) ?_) | (with_reducible refine heap_drew ?_) | (with_reducible refine heap_far (by omega) ?_) | (with_reducible apply heap_at))); all_goals rfl)
      rintro w11 ⟨b_w11, s3_w11⟩
      have a_w11 := a_wr.trans b_w11
      have s0_w11 := any_own b_w11 s0_wr
      have s1_w11 := any_own b_w11 s1_wr
      have s2_w11 := any_own b_w11 s2_wr
      have r0_w11 := own_row s0_w11
      have f0_w11 := own_free s0_w11
      have l0_w11 := own_lt s0_w11
      have r1_w11 := own_row s1_w11
      have f1_w11 := own_free s1_w11
      have l1_w11 := own_lt s1_w11
      have r2_w11 := own_row s2_w11
      have f2_w11 := own_free s2_w11
      have l2_w11 := own_lt s2_w11
      (try clear r0_wr); (try clear f0_wr)
      (try clear r1_wr); (try clear f1_wr)
      (try clear r2_wr); (try clear f2_wr)
      have r3_w11 := own_row s3_w11
      have f3_w11 := own_free s3_w11
      have l3_w11 := own_lt s3_w11
      have z_w11 := b_w11.below.size
      have nb : bf ≠ wr.heap.size := by have := own_lt s2_wr; omega
      refine (As_fault_F bf wr.heap.size _ w11 (HG.out.later a_w11) (own_row s3_w11 0) (own_free s3_w11 0)).mono ?_
      rintro e w12 ⟨rfl, b_w12⟩
      have s3_w12 := any_own b_w12 (heap_at (v := .pointer (some ⟨bf, 0, none⟩)) (i := 0) s3_w11 rfl)
      have s2_w12 := any_own b_w12 (heap_far nb s2_w11)
      have r3_w12 := own_row s3_w12
      have r2_w12 := own_row s2_w12
      have a_w12 : AnyLater w w12 := (a_wr.trans (b_w11.setCell (p := ⟨wr.heap.size, 0, none⟩) (Nat.le_refl _) _)).trans b_w12
      clear b_w12 s3_w12 s2_w12
      go_wp2_with fail
      refine (lives_any _ (HG.out.later a_w12)).mono ?_
      rintro e w13 ⟨rfl, b_w13⟩
      have z_w13 := b_w13.below.size
      have a_w13 := a_w12.trans b_w13
      go_wp2_with fail
      go_ret
      exact ⟨rfl, a_w13⟩
set_option maxRecDepth 100000 in
set_option maxHeartbeats 3200000 in
theorem keeps_empty (x : Int) (v0 : Value) (zs : List Int) (c : Int) (w : World) (hi : Ints w w.heap.size v0 zs) (hg : Glob w) (hc : (c == 0) = false) (hy : zs.take 20 = []) :
    Calls Tryd.prog 4 #[.int .i64 x, v0, .int .i64 c] w fun e w' => e = .returned (.bool true) ∧ AnyLater w w' := by
  have C1 := Lib.hid (show Calls Tryd.prog 6 #[v0] w (Row w []) by rw [← hy]; exact few_any v0 zs w hi)
  have HG := Lib.hid hg
  clear hi hg hy
  go_enter Tryd.func4, Tryd.ntmps4
  go_wp2_with fail
  refine C1.out.mono ?_
  rintro e w1 ⟨v1, rfl, a_w1, o1⟩
  obtain ⟨a, cp, rfl⟩ := own_form o1
  have O1 := Lib.hid o1
  clear o1 C1
  simp only [List.length_nil] at *
  go_wp2_with fail
  refine (made_code _ [] c w1 _ O1.out (by decide) hc).mono ?_
  rintro e w3 ⟨v3, rfl, b_w3, hc3⟩
  have a_w3 := a_w1.trans b_w3
  obtain rfl := hc3
  clear b_w3 O1
  go_wp2_with fail
  refine (of_chain x [] c _ w3 rfl).mono ?_
  rintro e w4 ⟨rfl, b_w4, sf⟩
  have a_w4 := a_w3.trans b_w4
  have hf : Chain w4 [x] c _ := ⟨_, _, rfl, sf, rfl⟩
  have HF := Lib.hid hf
  clear b_w4 hf
  generalize w3.heap.size = bf at *
  go_wp2_with fail
  refine (Path_chain [] c _ w4 (HG.out.later a_w4) rfl (by decide)).mono ?_
  rintro e w5 ⟨v5, rfl, b_w5, o5⟩
  have a_w5 := a_w4.trans b_w5
  obtain ⟨a1, c1, rfl⟩ := own_form o5
  clear o5
  simp only [List.length_nil] at *
  go_wp2_with fail
  refine (Path_chain [x] c _ w5 (HG.out.later a_w5) (HF.out.later b_w5) (by simp)).mono ?_
  rintro e w6 ⟨v6, rfl, b_w6, o6⟩
  obtain ⟨g2, c2, cur2, rfl, s0_w6, k2⟩ := own_cells o6 (show [x].length = 0 + 1 from rfl)
  have K2 := Lib.hid k2
  have b46 := b_w5.trans b_w6
  have s1_w6 := any_own b46 sf
  have a_w6 := a_w5.trans b_w6
  clear o6 k2 b_w5 b_w6 sf
  simp only [Nat.zero_add] at *
  go_wp2_with fail
  refine (code_in [x] c _ w4 w6 (HG.out.later a_w4) HF.out b46 (by simp)).mono ?_
  rintro e w7 ⟨rfl, b_w7⟩
  have z_w7 := b_w7.below.size
  have a_w7 := a_w6.trans b_w7
  have s0_w7 := any_own b_w7 s0_w6
  have s1_w7 := any_own b_w7 s1_w6
  have r0_w7 := own_row s0_w7
  have f0_w7 := own_free s0_w7
  have l0_w7 := own_lt s0_w7
  have r1_w7 := own_row s1_w7
  have f1_w7 := own_free s1_w7
  have l1_w7 := own_lt s1_w7
  (try clear r0_w6); (try clear f0_w6)
  (try clear r1_w6); (try clear f1_w6)
  go_wp2_with fail
  refine (code_in [] c _ w4 w7 (HG.out.later a_w4) rfl (b46.trans b_w7) (by decide)).mono ?_
  rintro e w8 ⟨rfl, b_w8⟩
  have z_w8 := b_w8.below.size
  have a_w8 := a_w7.trans b_w8
  have s0_w8 := any_own b_w8 s0_w7
  have s1_w8 := any_own b_w8 s1_w7
  have r0_w8 := own_row s0_w8
  have f0_w8 := own_free s0_w8
  have l0_w8 := own_lt s0_w8
  have r1_w8 := own_row s1_w8
  have f1_w8 := own_free s1_w8
  have l1_w8 := own_lt s1_w8
  (try clear r0_w7); (try clear f0_w7)
  (try clear r1_w7); (try clear f1_w7)
  have b48 := (b46.trans b_w7).trans b_w8
  clear b46 b_w7 b_w8
  go_wp2_with fail
  refine (Is_chain [x] c c _ w8 true (by simp) (HF.out.later b48)).mono ?_
  rintro e w' ⟨rfl, rfl⟩
  have e0 : cur2[0]? = some (.int .i64 x) := K2.out 0 (by simp)
  go_wp2_with fail
  refine (depth_in [x] 1 c _ w4 w8 HF.out b48 rfl (by decide)).mono ?_
  rintro e w9 ⟨rfl, b_w9⟩
  have z_w9 := b_w9.below.size
  have a_w9 := a_w8.trans b_w9
  have s0_w9 := any_own b_w9 s0_w8
  have s1_w9 := any_own b_w9 s1_w8
  have r0_w9 := own_row s0_w9
  have f0_w9 := own_free s0_w9
  have l0_w9 := own_lt s0_w9
  have r1_w9 := own_row s1_w9
  have f1_w9 := own_free s1_w9
  have l1_w9 := own_lt s1_w9
  (try clear r0_w8); (try clear f0_w8)
  (try clear r1_w8); (try clear f1_w8)
  go_wp2_with fail
  refine (depth_in [] 0 c _ w4 w9 rfl (b48.trans b_w9) rfl (by decide)).mono ?_
  rintro e w10 ⟨rfl, b_w10⟩
  have z_w10 := b_w10.below.size
  have a_w10 := a_w9.trans b_w10
  have s0_w10 := any_own b_w10 s0_w9
  have s1_w10 := any_own b_w10 s1_w9
  have r0_w10 := own_row s0_w10
  have f0_w10 := own_free s0_w10
  have l0_w10 := own_lt s0_w10
  have r1_w10 := own_row s1_w10
  have f1_w10 := own_free s1_w10
  have l1_w10 := own_lt s1_w10
  (try clear r0_w9); (try clear f0_w9)
  (try clear r1_w9); (try clear f1_w9)
  have b410 := (b48.trans b_w9).trans b_w10
  clear b48 b_w9 b_w10
  go_wp2_with fail
  refine wp_loop_rounds 1 ?_
  rw [rounds_succ]
  go_wp2_with fail
  first | refine settle_wp (fun wS => AnyLater w10 wS ∧ wS.heap[w10.heap.size]? = some (.cells #[.pointer none] 41)) ?_ ?_ | refine settle_calls (fun wS => AnyLater w10 wS ∧ wS.heap[w10.heap.size]? = some (.cells #[.pointer none] 41)) ?_ ?_
  · refine ⟨?_, ?_⟩
    · repeat' (first | with_reducible assumption | with_reducible exact AnyLater.refl _ | with_reducible apply AnyLater.setCell | with_reducible apply AnyLater.later | with_reducible apply AnyLater.drewN | with_reducible apply AnyLater.drew | with_reducible apply AnyLater.alloc | ((try simp only [World.size_alloc, World.size_setCell, World.size_drew]); (try dsimp only); omega))
    · ((repeat (first | with_reducible assumption | ((with_reducible apply heap_new); (try simp only [World.size_alloc, World.size_setCell, World.size_drew, World.heap_drewN]); done) | ((with_reducible apply heap_new); (try simp only [World.size_alloc, World.size_setCell, World.size_drew, World.heap_drewN]); omega) | (with_reducible refine heap_old (by (try simp only [World.size_alloc, World.size_setCell, World.size_drew, World.heap_drewN]); omega) ?_) | (with_reducible refine heap_drew ?_) | (with_reducible refine heap_far (by omega) ?_) | (with_reducible apply heap_at))); all_goals rfl)
  rintro w11 ⟨b_w11, s2_w11⟩
  have a_w11 := a_w10.trans b_w11
  have s0_w11 := any_own b_w11 s0_w10
  have s1_w11 := any_own b_w11 s1_w10
  have r0_w11 := own_row s0_w11
  have f0_w11 := own_free s0_w11
  have l0_w11 := own_lt s0_w11
  have r1_w11 := own_row s1_w11
  have f1_w11 := own_free s1_w11
  have l1_w11 := own_lt s1_w11
  (try clear r0_w10); (try clear f0_w10)
  (try clear r1_w10); (try clear f1_w10)
  have r2_w11 := own_row s2_w11
  have f2_w11 := own_free s2_w11
  have l2_w11 := own_lt s2_w11
  have z_w11 := b_w11.below.size
  have nb : bf ≠ w10.heap.size := by have := own_lt s1_w10; omega
  refine (As_fault_F bf w10.heap.size _ w11 (HG.out.later a_w11) (own_row s2_w11 0) (own_free s2_w11 0)).mono ?_
  rintro e w12 ⟨rfl, b_w12⟩
  have s2_w12 := any_own b_w12 (heap_at (v := .pointer (some ⟨bf, 0, none⟩)) (i := 0) s2_w11 rfl)
  have s1_w12 := any_own b_w12 (heap_far nb s1_w11)
  have r2_w12 := own_row s2_w12
  have r1_w12 := own_row s1_w12
  have a_w12 : AnyLater w w12 := (a_w10.trans (b_w11.setCell (p := ⟨w10.heap.size, 0, none⟩) (Nat.le_refl _) _)).trans b_w12
  clear b_w12 s2_w12 s1_w12
  go_wp2_with fail
  refine (lives_any _ (HG.out.later a_w12)).mono ?_
  rintro e w13 ⟨rfl, b_w13⟩
  have z_w13 := b_w13.below.size
  have a_w13 := a_w12.trans b_w13
  go_wp2_with fail
  go_ret
  exact ⟨rfl, a_w13⟩
/-- FaultKeeps -/
theorem keeps_any (x : Int) (v0 : Value) (zs : List Int) (c : Int) (w : World) (hi : Ints w w.heap.size v0 zs) (hg : Glob w) :
    Calls Tryd.prog 4 #[.int .i64 x, v0, .int .i64 c] w fun e w' => e = .returned (.bool true) ∧ AnyLater w w' := by
  by_cases hc : c = 0
  · subst hc
    exact keeps_zero x v0 zs w hi hg
  · have hc' : (c == 0) = false := by simpa using hc
    cases hz : (zs.take 20).length with
    | zero => exact keeps_empty x v0 zs c w hi hg hc' (List.eq_nil_of_length_eq_zero hz)
    | succ m => exact keeps_some x v0 zs _ m c w hi hg hc' rfl hz (by rw [List.length_take] at hz; omega)
end Go.Proofs.YtfocpgnhbabeiaaDoor
