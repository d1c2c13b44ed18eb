/- what the proof stands on: SeqC SeqD -/
import Derived.LoopN
import Derived.Deep.LoopGhost
import Derived.BigRegion
import Derived.RegionTactic
import Derived.Test.YtamhnffokoejjaaGreatDoorKnao
import Derived.Test.YtamhnffokoejjaaGreatDoorKnad
namespace Go.Proofs.YtamhnffokoejjaaGreatDoor
set_option linter.unusedSimpArgs false
set_option linter.unusedVariables false
set_option linter.unusedSectionVars false
open Go.RowKit
def tlBad (x : Int × Int) : Bool := decide (x.1 < 0 ∨ 16777216 < x.1 ∨ x.2 < 0 ∨ 16777216 < x.2)
set_option maxRecDepth 100000 in
theorem mayNot_any (a b : Int) (c : Bool) (w : World) (hc : tlBad (a, b) = c) : Calls Tryz.prog 221 #[.agg #[.int .i64 a, .int .i64 b]] w fun e w' => e = .returned (.bool c) ∧ AnyLater w w' := by
  unfold tlBad at hc
  by_cases h1 : a < 0
  · obtain rfl : true = c := by rw [← hc]; exact (decide_eq_true (.inl h1)).symm
    clear hc
    go_enter Tryz.func221, Tryz.ntmps221
    go_wp2_with fail
    go_ret
    exact ⟨rfl, by repeat' (first | with_reducible assumption | with_reducible exact AnyLater.refl _ | with_reducible apply AnyLater.setCell | with_reducible apply AnyLater.later | with_reducible apply AnyLater.drewN | with_reducible apply AnyLater.drew | with_reducible apply AnyLater.alloc | ((try simp only [World.size_alloc, World.size_setCell, World.size_drew]); (try dsimp only); omega))⟩
  · by_cases h2 : 16777216 < a
    · obtain rfl : true = c := by rw [← hc]; exact (decide_eq_true (.inr (.inl h2))).symm
      clear hc
      go_enter Tryz.func221, Tryz.ntmps221
      go_wp2_with fail
      go_ret
      exact ⟨rfl, by repeat' (first | with_reducible assumption | with_reducible exact AnyLater.refl _ | with_reducible apply AnyLater.setCell | with_reducible apply AnyLater.later | with_reducible apply AnyLater.drewN | with_reducible apply AnyLater.drew | with_reducible apply AnyLater.alloc | ((try simp only [World.size_alloc, World.size_setCell, World.size_drew]); (try dsimp only); omega))⟩
    · by_cases h3 : b < 0
      · obtain rfl : true = c := by rw [← hc]; exact (decide_eq_true (.inr (.inr (.inl h3)))).symm
        clear hc
        go_enter Tryz.func221, Tryz.ntmps221
        go_wp2_with fail
        go_ret
        exact ⟨rfl, by repeat' (first | with_reducible assumption | with_reducible exact AnyLater.refl _ | with_reducible apply AnyLater.setCell | with_reducible apply AnyLater.later | with_reducible apply AnyLater.drewN | with_reducible apply AnyLater.drew | with_reducible apply AnyLater.alloc | ((try simp only [World.size_alloc, World.size_setCell, World.size_drew]); (try dsimp only); omega))⟩
      · by_cases h4 : 16777216 < b
        · obtain rfl : true = c := by rw [← hc]; exact (decide_eq_true (.inr (.inr (.inr h4)))).symm
          clear hc
          go_enter Tryz.func221, Tryz.ntmps221
          go_wp2_with fail
          go_ret
          exact ⟨rfl, by repeat' (first | with_reducible assumption | with_reducible exact AnyLater.refl _ | with_reducible apply AnyLater.setCell | with_reducible apply AnyLater.later | with_reducible apply AnyLater.drewN | with_reducible apply AnyLater.drew | with_reducible apply AnyLater.alloc | ((try simp only [World.size_alloc, World.size_setCell, World.size_drew]); (try dsimp only); omega))⟩
        · obtain rfl : false = c := by rw [← hc]; exact (decide_eq_false (by simp only; omega)).symm
          clear hc
          go_enter Tryz.func221, Tryz.ntmps221
          go_wp2_with fail
          go_ret
          exact ⟨rfl, by repeat' (first | with_reducible assumption | with_reducible exact AnyLater.refl _ | with_reducible apply AnyLater.setCell | with_reducible apply AnyLater.later | with_reducible apply AnyLater.drewN | with_reducible apply AnyLater.drew | with_reducible apply AnyLater.alloc | ((try simp only [World.size_alloc, World.size_setCell, World.size_drew]); (try dsimp only); omega))⟩
set_option maxRecDepth 100000 in
theorem countsOf_any (a b : Int) (w : World) : Calls Tryz.prog 210 #[.agg #[.int .i64 a, .int .i64 b]] w fun e w' => e = .returned (.agg #[.int .i64 1, .int .i64 a, .int .i64 b]) ∧ AnyLater w w' := by
  go_enter Tryz.func210, Tryz.ntmps210
  go_wp2_with fail
  refine bodyPost_ret (v := .agg #[.int .i64 1, .int .i64 a, .int .i64 b]) (by simp [results, Tryz.results210, go_sem, *]) rfl ⟨rfl, ?_⟩
  repeat' (first | with_reducible assumption | with_reducible exact AnyLater.refl _ | with_reducible apply AnyLater.setCell | with_reducible apply AnyLater.later | with_reducible apply AnyLater.drewN | with_reducible apply AnyLater.drew | with_reducible apply AnyLater.alloc | ((try simp only [World.size_alloc, World.size_setCell, World.size_drew]); (try dsimp only); omega))
set_option maxRecDepth 100000 in
set_option maxHeartbeats 1600000 in
theorem and_any (a b c d e f x y z : Int) (w : World) (hx : a + d = x) (hy : b + e = y) (hz : c + f = z) (bx : 0 ≤ x ∧ x ≤ 9000000000000) (bY : 0 ≤ y ∧ y ≤ 9000000000000) (bz : 0 ≤ z ∧ z ≤ 9000000000000) :
    Calls Tryz.prog 207 #[.agg #[.int .i64 a, .int .i64 b, .int .i64 c], .agg #[.int .i64 d, .int .i64 e, .int .i64 f]] w fun e w' => e = .returned (.agg #[.int .i64 x, .int .i64 y, .int .i64 z]) ∧ AnyLater w w' := by
  obtain ⟨x1, x2⟩ := bx
  obtain ⟨y1, y2⟩ := bY
  obtain ⟨z1, z2⟩ := bz
  go_enter Tryz.func207, Tryz.ntmps207
  go_wp2_with fail
  refine wp_loop_rounds 4 ?_
  rw [rounds_succ]
  go_wp2_with fail
  go_region
  go_wp2_with fail
  rw [rounds_succ]
  go_wp2_with fail
  go_region
  go_wp2_with fail
  rw [rounds_succ]
  go_wp2_with fail
  go_region
  go_wp2_with fail
  rw [rounds_succ]
  go_wp2_with fail
  refine bodyPost_ret (v := .agg #[.int .i64 x, .int .i64 y, .int .i64 z]) (by simp [results, Tryz.results207, go_sem, *]) rfl ⟨rfl, ?_⟩
  repeat' (first | with_reducible assumption | with_reducible exact AnyLater.refl _ | with_reducible apply AnyLater.setCell | with_reducible apply AnyLater.later | with_reducible apply AnyLater.drewN | with_reducible apply AnyLater.drew | with_reducible apply AnyLater.alloc | ((try simp only [World.size_alloc, World.size_setCell, World.size_drew]); (try dsimp only); omega))
theorem tl_take {l : Qs} {j : Nat} (h : j < l.length) : tlR (l.take (j + 1)) = tlR (l.take j) + l[j].1 ∧ tlH (l.take (j + 1)) = tlH (l.take j) + l[j].2 := by
  rw [List.take_succ_eq_append_getElem h, tlR_append, tlH_append]
  simp [tlR, tlH]
theorem Tls.bound {l : Qs} (h : Tls l) (hl : l.length ≤ 90000) (j : Nat) : (0 ≤ tlR (l.take j) ∧ tlR (l.take j) ≤ 2000000000000) ∧ 0 ≤ tlH (l.take j) ∧ tlH (l.take j) ≤ 2000000000000 := by
  have h1 := (h.take j).sums
  have h2 : (l.take j).length ≤ 90000 := by rw [List.length_take]; omega
  omega
set_option maxRecDepth 100000 in
set_option maxHeartbeats 1600000 in
theorem reckoned_leaf (k : Nat) (rv v x3 x4 x5 x6 : Value) (l : Qs) (w : World) (hk : w.heap[k]? = some (.cells #[.pointer none, rv, v, x3, x4, x5, x6] 249)) (hv : QR w v l) (hl : l.length ≤ 90000) (hT : Tls l) :
    Calls Tryz.prog 260 #[.pointer (some ⟨k, 0, none⟩)] w fun e w' => e = .returned (.agg #[.int .i64 (l.length : Int), .int .i64 (tlR l), .int .i64 (tlH l), .int .i64 1]) ∧ AnyLater w w' := by
  obtain ⟨A, cap, rfl, h2, h3⟩ := hv
  have HCC : Hid (∀ (j : Nat) (h : j < l.length), ∃ b off, A = some ⟨b, off, none⟩ ∧ b < w.heap.size ∧ w.cell? ⟨b, off + j * 2, none⟩ = some (.int .i64 l[j].1) ∧ w.cell? ⟨b, off + j * 2 + 1, none⟩ = some (.int .i64 l[j].2)) := Lib.hid (fun j hj => by
    obtain ⟨b, off, e, hb, hc⟩ := h3 (by omega)
    exact ⟨b, off, e, hb, hc j hj⟩)
  have HT : Hid (∀ (j : Nat) (h : j < l.length), tlR (l.take (j + 1)) = tlR (l.take j) + l[j].1 ∧ tlH (l.take (j + 1)) = tlH (l.take j) + l[j].2) := Lib.hid (fun j h => tl_take h)
  have HB : Hid (∀ j, (0 ≤ tlR (l.take j) ∧ tlR (l.take j) ≤ 2000000000000) ∧ 0 ≤ tlH (l.take j) ∧ tlH (l.take j) ≤ 2000000000000) := Lib.hid (hT.bound hl)
  have HE : Hid (tlR (l.take l.length) = tlR l ∧ tlH (l.take l.length) = tlH l) := Lib.hid (by rw [List.take_length]; exact ⟨rfl, rfl⟩)
  have HL : Hid (l.length = l.length) := Lib.hid rfl
  have HC := Lib.hid (fun a b w => countsOf_any a b w)
  obtain ⟨n, hnn⟩ : ∃ n, l.length = n := ⟨_, rfl⟩
  have HN := Lib.hid hnn
  have s0_w := hk
  rw [hnn] at h2 hl HE s0_w ⊢
  clear h3 hk hnn hT HL
  generalize tlR l = SR at *
  generalize tlH l = SH at *
  have r0_w := own_row s0_w
  have l0_w := own_lt s0_w
  go_enter Tryz.func260, Tryz.ntmps260
  go_wp2_with fail
  first | refine settle_wp (fun wS => AnyLater w wS ∧ wS.heap[w.heap.size]? = some (.cells #[.int .i64 0, .int .i64 0, .int .i64 0, .int .i64 0] 247) ∧ wS.heap[w.heap.size + 1]? = some (.cells #[.int .i64 0, .int .i64 0, .int .i64 0] 206)) ?_ ?_ | refine settle_calls (fun wS => AnyLater w wS ∧ wS.heap[w.heap.size]? = some (.cells #[.int .i64 0, .int .i64 0, .int .i64 0, .int .i64 0] 247) ∧ wS.heap[w.heap.size + 1]? = some (.cells #[.int .i64 0, .int .i64 0, .int .i64 0] 206)) ?_ ?_
  · refine ⟨?_, ?_, ?_⟩
    · repeat' (first | with_reducible assumption | with_reducible exact AnyLater.refl _ | with_reducible apply AnyLater.setCell | with_reducible apply AnyLater.later | with_reducible apply AnyLater.drewN | with_reducible apply AnyLater.drew | with_reducible apply AnyLater.alloc | ((try simp only [World.size_alloc, World.size_setCell, World.size_drew]); (try dsimp only); omega))
    · ((repeat (first | with_reducible assumption | ((with_reducible apply heap_new); (try simp only [World.size_alloc, World.size_setCell, World.size_drew, World.heap_drewN]); done) | ((with_reducible apply heap_new); (try simp only [World.size_alloc, World.size_setCell, World.size_drew, World.heap_drewN]); omega) | (with_reducible refine heap_old (by (try simp only [World.size_alloc, World.size_setCell, World.size_drew, World.heap_drewN]); omega) ?_) | (with_reducible refine heap_drew ?_) | (with_reducible refine heap_far (by omega) ?_) | (with_reducible apply heap_at))); all_goals rfl)
    · ((repeat (first | with_reducible assumption | ((with_reducible apply heap_new); (try simp only [World.size_alloc, World.size_setCell, World.size_drew, World.heap_drewN]); done) | ((with_reducible apply heap_new); (try simp only [World.size_alloc, World.size_setCell, World.size_drew, World.heap_drewN]); omega) | (with_reducible refine heap_old (by (try simp only [World.size_alloc, World.size_setCell, World.size_drew, World.heap_drewN]); omega) ?_) | (with_reducible refine heap_drew ?_) | (with_reducible refine heap_far (by omega) ?_) | (with_reducible apply heap_at))); all_goals rfl)
  rintro w1 ⟨b_w1, s1_w1, s2_w1⟩
  have a_w1 := b_w1
  have s0_w1 := any_own b_w1 s0_w
  have r0_w1 := own_row s0_w1
  have f0_w1 := own_free s0_w1
  have l0_w1 := own_lt s0_w1
  (try clear r0_w); (try clear f0_w)
  have r1_w1 := own_row s1_w1
  have f1_w1 := own_free s1_w1
  have l1_w1 := own_lt s1_w1
  have r2_w1 := own_row s2_w1
  have f2_w1 := own_free s2_w1
  have l2_w1 := own_lt s2_w1
  have z_w1 := b_w1.below.size
  go_wp2_with fail
  go_loopg [19] n (fun kk i wr => ∃ j : Nat, kk = n - j ∧ j ≤ n ∧ i = .int .i64 j ∧ AnyLater w wr ∧ wr.heap[w.heap.size]? = some (.cells #[.int .i64 0, .int .i64 0, .int .i64 0, .int .i64 0] 247) ∧ wr.heap[w.heap.size + 1]? = some (.cells #[.int .i64 j, .int .i64 (tlR (l.take j)), .int .i64 (tlH (l.take j))] 206))
  case atStart => exact ⟨0, by omega, by omega, rfl, a_w1, s1_w1, by simpa [tlR, tlH] using s2_w1⟩
  case round =>
    obtain ⟨j, hk, hj, rfl, a_wr, s0_wr, s1_wr⟩ := hrel
    by_cases hlt : j < n
    · have lj : j < l.length := by rw [HN.out]; exact hlt
      obtain ⟨b, off, rfl, hb, k0, k1⟩ := HCC.out j lj
      have c0 : wr.cell? ⟨b, off + j * 2, none⟩ = some (.int .i64 l[j].1) := (a_wr.below.cell hb).trans k0
      have c1 : wr.cell? ⟨b, off + j * 2 + 1, none⟩ = some (.int .i64 l[j].2) := (a_wr.below.cell hb).trans k1
      obtain ⟨t1, t2⟩ := HT.out j lj
      have t1 := Lib.hid t1
      have t2 := Lib.hid t2
      obtain ⟨⟨p1, p2⟩, p3, p4⟩ := HB.out (j + 1)
      obtain ⟨R1, e1⟩ : ∃ R1, tlR (l.take (j + 1)) = R1 := ⟨_, rfl⟩
      obtain ⟨H1, e2⟩ : ∃ H1, tlH (l.take (j + 1)) = H1 := ⟨_, rfl⟩
      have HR1 := Lib.hid (And.intro e1 e2)
      rw [e1] at t1 p1 p2
      rw [e2] at t2 p3 p4
      clear e1 e2
      generalize tlR (l.take j) = R0 at *
      generalize tlH (l.take j) = H0 at *
      clear k0 k1
      generalize l[j] = x at *
      obtain ⟨f, t⟩ := x
      simp only at c0 c1 t1 t2
      have HA := Lib.hid (fun w => and_any (j : Int) R0 H0 1 f t ((j : Int) + 1) R1 H1 w rfl t1.out.symm t2.out.symm ⟨by omega, by omega⟩ ⟨by omega, by omega⟩ ⟨by omega, by omega⟩)
      go_wp2_with fail
      first | refine settle_wp (fun wS => AnyLater wr wS ∧ wS.heap[wr.heap.size]? = some (.cells #[.int .i64 f, .int .i64 t] 61)) ?_ ?_ | refine settle_calls (fun wS => AnyLater wr wS ∧ wS.heap[wr.heap.size]? = some (.cells #[.int .i64 f, .int .i64 t] 61)) ?_ ?_
      · refine ⟨?_, ?_⟩
        · repeat' (first | with_reducible assumption | with_reducible exact AnyLater.refl _ | with_reducible apply AnyLater.setCell | with_reducible apply AnyLater.later | with_reducible apply AnyLater.drewN | with_reducible apply AnyLater.drew | with_reducible apply AnyLater.alloc | ((try simp only [World.size_alloc, World.size_setCell, World.size_drew]); (try dsimp only); omega))
        · ((repeat (first | with_reducible assumption | ((with_reducible apply heap_new); (try simp only [World.size_alloc, World.size_setCell, World.size_drew, World.heap_drewN]); done) | ((with_reducible apply heap_new); (try simp only [World.size_alloc, World.size_setCell, World.size_drew, World.heap_drewN]); omega) | (with_reducible refine heap_old (by (try simp only [World.size_alloc, World.size_setCell, World.size_drew, World.heap_drewN]); omega) ?_) | (with_reducible refine heap_drew ?_) | (with_reducible refine heap_far (by omega) ?_) | (with_reducible apply heap_at))); all_goals rfl)
      rintro w2 ⟨b_w2, s2_w2⟩
      have a_w2 := a_wr.trans b_w2
      have s0_w2 := any_own b_w2 s0_wr
      have s1_w2 := any_own b_w2 s1_wr
      have r0_w2 := own_row s0_w2
      have f0_w2 := own_free s0_w2
      have l0_w2 := own_lt s0_w2
      have r1_w2 := own_row s1_w2
      have f1_w2 := own_free s1_w2
      have l1_w2 := own_lt s1_w2
      (try clear r0_wr); (try clear f0_wr)
      (try clear r1_wr); (try clear f1_wr)
      have r2_w2 := own_row s2_w2
      have f2_w2 := own_free s2_w2
      have l2_w2 := own_lt s2_w2
      have z_w2 := b_w2.below.size
      apply wp_region_free (4) [⟨2, 25, .agg #[.int .i64 1, .int .i64 f, .int .i64 t], false, fun v _ => v = .agg #[.int .i64 1, .int .i64 f, .int .i64 t]⟩, ⟨3, 26, .agg #[.int .i64 ((j : Int) + 1), .int .i64 R1, .int .i64 H1], false, fun v _ => v = .agg #[.int .i64 ((j : Int) + 1), .int .i64 R1, .int .i64 H1]⟩] [] rfl (by kernel_rfl) (by kernel_rfl) (by kernel_rfl) (by simp) (by kernel_rfl)
      case hstab =>
        intro c hc
        simp only [List.mem_cons, List.not_mem_nil, or_false] at hc
        rcases hc with rfl | rfl
        · intro v x y hxy hv; exact hv
        · intro v x y hxy hv; exact hv
      case hfix =>
        intro c hc
        simp only [List.mem_cons, List.not_mem_nil, or_false] at hc
        rcases hc with rfl | rfl
        · exact .inr fun u x h => h
        · exact .inr fun u x h => h
      case hlex =>
        intro U hU
        have q0 := own_row (any_own hU s0_w2)
        have q1 := own_row (any_own hU s1_w2)
        have q2 := own_row (any_own hU s2_w2)
        simp only [List.map_cons, List.map_nil, CA.act, actFrom, actOp, List.lookup, Nat.reduceBEq, Nat.reduceLeDiff, Nat.reduceAdd, if_false, if_true]
        repeat (go_big_quiet_step (fail))
        exact wpQuiet_nil rfl
      case hstep =>
        intro j hj o ho
        have hj2 : j = 0 ∨ j = 1 := by simp at hj; omega
        rcases hj2 with rfl | rfl
        · cases ho
          refine ⟨rfl, fun g x hx hp => ?_⟩
          clear hp
          simp only [fillAll, Act.put, List.setIfInBounds_toArray, List.set_cons_zero, List.set_cons_succ]
          refine chain_go ?_ (free_fix (HC.out f t x))
          first | (simp [go_sem, execOp]; done) | simp [go_sem, execOp, hcf]
        · cases ho
          refine ⟨rfl, fun g x hx hp => ?_⟩
          clear hp
          simp only [fillAll, Act.put, List.setIfInBounds_toArray, List.set_cons_zero, List.set_cons_succ]
          refine chain_go ?_ (free_fix (HA.out x))
          first | (simp [go_sem, execOp]; done) | simp [go_sem, execOp, hcf]
      case htail =>
        intro g u hst hne
        have b_w3 : AnyLater w2 (later u) := ⟨u, rfl⟩
        generalize later u = w3 at *
        clear u
        clear hst hne
        simp only [fillAll, Act.put, List.setIfInBounds_toArray, List.set_cons_zero, List.set_cons_succ, List.drop_succ_cons, List.drop_zero, List.drop_nil]
        have z_w3 := b_w3.below.size
        have a_w3 := a_w2.trans b_w3
        have s0_w3 := any_own b_w3 s0_w2
        have s1_w3 := any_own b_w3 s1_w2
        have s2_w3 := any_own b_w3 s2_w2
        have r0_w3 := own_row s0_w3
        have f0_w3 := own_free s0_w3
        have l0_w3 := own_lt s0_w3
        have r1_w3 := own_row s1_w3
        have f1_w3 := own_free s1_w3
        have l1_w3 := own_lt s1_w3
        have r2_w3 := own_row s2_w3
        have f2_w3 := own_free s2_w3
        have l2_w3 := own_lt s2_w3
        (try clear r0_w2); (try clear f0_w2)
        (try clear r1_w2); (try clear f1_w2)
        (try clear r2_w2); (try clear f2_w2)
        go_wp2_with fail
        go_roundg (n - (j + 1))
        case measure => omega
        case rel =>
          refine ⟨j + 1, rfl, hlt, by go_num, ?_, ?_, ?_⟩
          · repeat' (first | with_reducible assumption | with_reducible exact AnyLater.refl _ | with_reducible apply AnyLater.setCell | with_reducible apply AnyLater.later | with_reducible apply AnyLater.drewN | with_reducible apply AnyLater.drew | with_reducible apply AnyLater.alloc | ((try simp only [World.size_alloc, World.size_setCell, World.size_drew]); (try dsimp only); omega))
          · ((repeat (first | with_reducible assumption | ((with_reducible apply heap_new); (try simp only [World.size_alloc, World.size_setCell, World.size_drew, World.heap_drewN]); done) | ((with_reducible apply heap_new); (try simp only [World.size_alloc, World.size_setCell, World.size_drew, World.heap_drewN]); omega) | (with_reducible refine heap_old (by (try simp only [World.size_alloc, World.size_setCell, World.size_drew, World.heap_drewN]); omega) ?_) | (with_reducible refine heap_drew ?_) | (with_reducible refine heap_far (by omega) ?_) | (with_reducible apply heap_at))); all_goals rfl)
          · rw [HR1.out.1, HR1.out.2]
            ((repeat (first | with_reducible assumption | ((with_reducible apply heap_new); (try simp only [World.size_alloc, World.size_setCell, World.size_drew, World.heap_drewN]); done) | ((with_reducible apply heap_new); (try simp only [World.size_alloc, World.size_setCell, World.size_drew, World.heap_drewN]); omega) | (with_reducible refine heap_old (by (try simp only [World.size_alloc, World.size_setCell, World.size_drew, World.heap_drewN]); omega) ?_) | (with_reducible refine heap_drew ?_) | (with_reducible refine heap_far (by omega) ?_) | (with_reducible apply heap_at))); all_goals rfl)
    · obtain rfl : j = n := by omega
      obtain ⟨e1, e2⟩ := HE.out
      rw [e1, e2] at s1_wr
      have r0_wr := own_row s0_wr
      have r1_wr := own_row s1_wr
      have f0_wr := own_free s0_wr
      have l0_wr := own_lt s0_wr
      go_wp2_with fail
      refine bodyPost_ret (v := .agg #[.int .i64 (j : Int), .int .i64 SR, .int .i64 SH, .int .i64 1]) (by simp [results, Tryz.results260, go_sem, *]) rfl ⟨rfl, ?_⟩
      repeat' (first | with_reducible assumption | with_reducible exact AnyLater.refl _ | with_reducible apply AnyLater.setCell | with_reducible apply AnyLater.later | with_reducible apply AnyLater.drewN | with_reducible apply AnyLater.drew | with_reducible apply AnyLater.alloc | ((try simp only [World.size_alloc, World.size_setCell, World.size_drew]); (try dsimp only); omega))
theorem run_maxN2 {P : Program} (w : World) (ts : Array TypeId) (t : TypeId) (p q : Nat) : (Builtin.max_ ts t #[.int .i64 (p : Int), .int .i64 (q : Int)]).run P w = .ok (.int .i64 ((max p q : Nat) : Int)) w := by
  rw [run_max_int2]; split <;> (congr 2; omega)
set_option maxRecDepth 100000 in
set_option maxHeartbeats 1600000 in
theorem reckoned_two (k k1 k2 : Nat) (fv x3 x4 x5 x6 a0 a1 a2 b0 b1 b2 : Value) (n1 n2 m1 m2 : Nat) (R1 H1 R2 H2 : Int) (w : World)
    (hk : w.heap[k]? = some (.cells #[.pointer (some ⟨k1, 0, none⟩), .pointer (some ⟨k2, 0, none⟩), fv, x3, x4, x5, x6] 249))
    (h1 : w.heap[k1]? = some (.cells #[a0, a1, a2, .int .i64 (n1 : Int), .int .i64 R1, .int .i64 H1, .int .i64 (m1 : Int)] 249)) (h2 : w.heap[k2]? = some (.cells #[b0, b1, b2, .int .i64 (n2 : Int), .int .i64 R2, .int .i64 H2, .int .i64 (m2 : Int)] 249))
    (bn : n1 + n2 ≤ 90000) (bm : m1 ≤ 90000 ∧ m2 ≤ 90000) (bR : 0 ≤ R1 + R2 ∧ R1 + R2 ≤ 9000000000000) (bH : 0 ≤ H1 + H2 ∧ H1 + H2 ≤ 9000000000000) :
    Calls Tryz.prog 260 #[.pointer (some ⟨k, 0, none⟩)] w fun e w' => e = .returned (.agg #[.int .i64 ((n1 + n2 : Nat) : Int), .int .i64 (R1 + R2), .int .i64 (H1 + H2), .int .i64 ((1 + max m1 m2 : Nat) : Int)]) ∧ AnyLater w w' := by
  have s0_w := hk
  have s1_w := h1
  have s2_w := h2
  obtain ⟨N, hN⟩ : ∃ N, n1 + n2 = N := ⟨_, rfl⟩
  obtain ⟨R, hR⟩ : ∃ R, R1 + R2 = R := ⟨_, rfl⟩
  obtain ⟨H, hH⟩ : ∃ H, H1 + H2 = H := ⟨_, rfl⟩
  obtain ⟨M, hM⟩ : ∃ M, max m1 m2 = M := ⟨_, rfl⟩
  have hM2 : M ≤ 90000 := by omega
  have HMx : ∀ (w : World) ts t, (Builtin.max_ ts t #[.int .i64 (m1 : Int), .int .i64 (m2 : Int)]).run Tryz.prog w = .ok (.int .i64 (M : Int)) w := fun w ts t => by rw [run_maxN2, hM]
  have HA := Lib.hid (fun w => and_any (n1 : Int) R1 H1 (n2 : Int) R2 H2 (N : Int) R H w (by omega) hR hH ⟨by omega, by omega⟩ ⟨by omega, by omega⟩ ⟨by omega, by omega⟩)
  rw [hN, hR, hH, hM]
  clear hk h1 h2 hN hR hH hM bn bm bR bH
  have r0_w := own_row s0_w
  have r1_w := own_row s1_w
  have r2_w := own_row s2_w
  have f0_w := own_free s0_w
  have f1_w := own_free s1_w
  have f2_w := own_free s2_w
  have l0_w := own_lt s0_w
  have l1_w := own_lt s1_w
  have l2_w := own_lt s2_w
  go_enter Tryz.func260, Tryz.ntmps260
  go_wp2_with fail
  first | refine settle_wp (fun wS => AnyLater w wS ∧ wS.heap[w.heap.size]? = some (.cells #[.int .i64 0, .int .i64 0, .int .i64 0, .int .i64 0] 247)) ?_ ?_ | refine settle_calls (fun wS => AnyLater w wS ∧ wS.heap[w.heap.size]? = some (.cells #[.int .i64 0, .int .i64 0, .int .i64 0, .int .i64 0] 247)) ?_ ?_
  · refine ⟨?_, ?_⟩
    · repeat' (first | with_reducible assumption | with_reducible exact AnyLater.refl _ | with_reducible apply AnyLater.setCell | with_reducible apply AnyLater.later | with_reducible apply AnyLater.drewN | with_reducible apply AnyLater.drew | with_reducible apply AnyLater.alloc | ((try simp only [World.size_alloc, World.size_setCell, World.size_drew]); (try dsimp only); omega))
    · ((repeat (first | with_reducible assumption | ((with_reducible apply heap_new); (try simp only [World.size_alloc, World.size_setCell, World.size_drew, World.heap_drewN]); done) | ((with_reducible apply heap_new); (try simp only [World.size_alloc, World.size_setCell, World.size_drew, World.heap_drewN]); omega) | (with_reducible refine heap_old (by (try simp only [World.size_alloc, World.size_setCell, World.size_drew, World.heap_drewN]); omega) ?_) | (with_reducible refine heap_drew ?_) | (with_reducible refine heap_far (by omega) ?_) | (with_reducible apply heap_at))); all_goals rfl)
  rintro w1 ⟨b_w1, s3_w1⟩
  have a_w1 := b_w1
  have s0_w1 := any_own b_w1 s0_w
  have s1_w1 := any_own b_w1 s1_w
  have s2_w1 := any_own b_w1 s2_w
  have r0_w1 := own_row s0_w1
  have f0_w1 := own_free s0_w1
  have l0_w1 := own_lt s0_w1
  have r1_w1 := own_row s1_w1
  have f1_w1 := own_free s1_w1
  have l1_w1 := own_lt s1_w1
  have r2_w1 := own_row s2_w1
  have f2_w1 := own_free s2_w1
  have l2_w1 := own_lt s2_w1
  (try clear r0_w); (try clear f0_w)
  (try clear r1_w); (try clear f1_w)
  (try clear r2_w); (try clear f2_w)
  have r3_w1 := own_row s3_w1
  have f3_w1 := own_free s3_w1
  have l3_w1 := own_lt s3_w1
  have z_w1 := b_w1.below.size
  go_region
  · go_wp2_with fail
    first | refine settle_wp (fun wS => AnyLater w1 wS ∧ wS.heap[w1.heap.size]? = some (.cells #[.int .i64 (n1 : Int), .int .i64 R1, .int .i64 H1, .int .i64 (m1 : Int)] 247) ∧ wS.heap[w1.heap.size + 1]? = some (.cells #[.int .i64 (n2 : Int), .int .i64 R2, .int .i64 H2, .int .i64 (m2 : Int)] 247)) ?_ ?_ | refine settle_calls (fun wS => AnyLater w1 wS ∧ wS.heap[w1.heap.size]? = some (.cells #[.int .i64 (n1 : Int), .int .i64 R1, .int .i64 H1, .int .i64 (m1 : Int)] 247) ∧ wS.heap[w1.heap.size + 1]? = some (.cells #[.int .i64 (n2 : Int), .int .i64 R2, .int .i64 H2, .int .i64 (m2 : Int)] 247)) ?_ ?_
    · refine ⟨?_, ?_, ?_⟩
      · repeat' (first | with_reducible assumption | with_reducible exact AnyLater.refl _ | with_reducible apply AnyLater.setCell | with_reducible apply AnyLater.later | with_reducible apply AnyLater.drewN | with_reducible apply AnyLater.drew | with_reducible apply AnyLater.alloc | ((try simp only [World.size_alloc, World.size_setCell, World.size_drew]); (try dsimp only); omega))
      · ((repeat (first | with_reducible assumption | ((with_reducible apply heap_new); (try simp only [World.size_alloc, World.size_setCell, World.size_drew, World.heap_drewN]); done) | ((with_reducible apply heap_new); (try simp only [World.size_alloc, World.size_setCell, World.size_drew, World.heap_drewN]); omega) | (with_reducible refine heap_old (by (try simp only [World.size_alloc, World.size_setCell, World.size_drew, World.heap_drewN]); omega) ?_) | (with_reducible refine heap_drew ?_) | (with_reducible refine heap_far (by omega) ?_) | (with_reducible apply heap_at))); all_goals rfl)
      · ((repeat (first | with_reducible assumption | ((with_reducible apply heap_new); (try simp only [World.size_alloc, World.size_setCell, World.size_drew, World.heap_drewN]); done) | ((with_reducible apply heap_new); (try simp only [World.size_alloc, World.size_setCell, World.size_drew, World.heap_drewN]); omega) | (with_reducible refine heap_old (by (try simp only [World.size_alloc, World.size_setCell, World.size_drew, World.heap_drewN]); omega) ?_) | (with_reducible refine heap_drew ?_) | (with_reducible refine heap_far (by omega) ?_) | (with_reducible apply heap_at))); all_goals rfl)
    rintro w2 ⟨b_w2, s4_w2, s5_w2⟩
    have a_w2 := a_w1.trans b_w2
    have s0_w2 := any_own b_w2 s0_w1
    have s1_w2 := any_own b_w2 s1_w1
    have s2_w2 := any_own b_w2 s2_w1
    have s3_w2 := any_own b_w2 s3_w1
    have r0_w2 := own_row s0_w2
    have f0_w2 := own_free s0_w2
    have l0_w2 := own_lt s0_w2
    have r1_w2 := own_row s1_w2
    have f1_w2 := own_free s1_w2
    have l1_w2 := own_lt s1_w2
    have r2_w2 := own_row s2_w2
    have f2_w2 := own_free s2_w2
    have l2_w2 := own_lt s2_w2
    have r3_w2 := own_row s3_w2
    have f3_w2 := own_free s3_w2
    have l3_w2 := own_lt s3_w2
    (try clear r0_w1); (try clear f0_w1)
    (try clear r1_w1); (try clear f1_w1)
    (try clear r2_w1); (try clear f2_w1)
    (try clear r3_w1); (try clear f3_w1)
    have r4_w2 := own_row s4_w2
    have f4_w2 := own_free s4_w2
    have l4_w2 := own_lt s4_w2
    have r5_w2 := own_row s5_w2
    have f5_w2 := own_free s5_w2
    have l5_w2 := own_lt s5_w2
    have z_w2 := b_w2.below.size
    apply wp_region_free (12) [⟨4, 48, .agg #[.int .i64 (N : Int), .int .i64 R, .int .i64 H], false, fun v _ => v = .agg #[.int .i64 (N : Int), .int .i64 R, .int .i64 H]⟩] [] rfl (by kernel_rfl) (by kernel_rfl) (by kernel_rfl) (by simp) (by kernel_rfl)
    case hstab =>
      intro c hc
      simp only [List.mem_cons, List.not_mem_nil, or_false] at hc
      rcases hc with rfl
      · intro v x y hxy hv; exact hv
    case hfix =>
      intro c hc
      simp only [List.mem_cons, List.not_mem_nil, or_false] at hc
      rcases hc with rfl
      · exact .inr fun u x h => h
    case hlex =>
      intro U hU
      have q0 := own_row (any_own hU s0_w2)
      have q1 := own_row (any_own hU s1_w2)
      have q2 := own_row (any_own hU s2_w2)
      have q3 := own_row (any_own hU s3_w2)
      have q4 := own_row (any_own hU s4_w2)
      have q5 := own_row (any_own hU s5_w2)
      simp only [List.map_cons, List.map_nil, CA.act, actFrom, actOp, List.lookup, Nat.reduceBEq, Nat.reduceLeDiff, Nat.reduceAdd, if_false, if_true]
      repeat (go_big_quiet_step (fail))
      exact wpQuiet_nil rfl
    case hstep =>
      intro j hj o ho
      have hj2 : j = 0 := by simp at hj; omega
      rcases hj2 with rfl
      · cases ho
        refine ⟨rfl, fun g x hx hp => ?_⟩
        clear hp
        simp only [fillAll, Act.put, List.setIfInBounds_toArray, List.set_cons_zero, List.set_cons_succ]
        refine chain_go ?_ (free_fix (HA.out x))
        first | (simp [go_sem, execOp]; done) | simp [go_sem, execOp, hcf]
    case htail =>
      intro g u hst hne
      have b_w3 : AnyLater w2 (later u) := ⟨u, rfl⟩
      generalize later u = w3 at *
      clear u
      clear hst hne
      simp only [fillAll, Act.put, List.setIfInBounds_toArray, List.set_cons_zero, List.set_cons_succ, List.drop_succ_cons, List.drop_zero, List.drop_nil]
      have z_w3 := b_w3.below.size
      have a_w3 := a_w2.trans b_w3
      have s0_w3 := any_own b_w3 s0_w2
      have s1_w3 := any_own b_w3 s1_w2
      have s2_w3 := any_own b_w3 s2_w2
      have s3_w3 := any_own b_w3 s3_w2
      have s4_w3 := any_own b_w3 s4_w2
      have s5_w3 := any_own b_w3 s5_w2
      have r0_w3 := own_row s0_w3
      have f0_w3 := own_free s0_w3
      have l0_w3 := own_lt s0_w3
      have r1_w3 := own_row s1_w3
      have f1_w3 := own_free s1_w3
      have l1_w3 := own_lt s1_w3
      have r2_w3 := own_row s2_w3
      have f2_w3 := own_free s2_w3
      have l2_w3 := own_lt s2_w3
      have r3_w3 := own_row s3_w3
      have f3_w3 := own_free s3_w3
      have l3_w3 := own_lt s3_w3
      have r4_w3 := own_row s4_w3
      have f4_w3 := own_free s4_w3
      have l4_w3 := own_lt s4_w3
      have r5_w3 := own_row s5_w3
      have f5_w3 := own_free s5_w3
      have l5_w3 := own_lt s5_w3
      (try clear r0_w2); (try clear f0_w2)
      (try clear r1_w2); (try clear f1_w2)
      (try clear r2_w2); (try clear f2_w2)
      (try clear r3_w2); (try clear f3_w2)
      (try clear r4_w2); (try clear f4_w2)
      (try clear r5_w2); (try clear f5_w2)
      go_wp2_with fail
      refine bodyPost_ret (v := .agg #[.int .i64 (N : Int), .int .i64 R, .int .i64 H, .int .i64 ((1 + M : Nat) : Int)]) (by simp [results, Tryz.results260, go_sem, *]) rfl ⟨rfl, ?_⟩
      repeat' (first | with_reducible assumption | with_reducible exact AnyLater.refl _ | with_reducible apply AnyLater.setCell | with_reducible apply AnyLater.later | with_reducible apply AnyLater.drewN | with_reducible apply AnyLater.drew | with_reducible apply AnyLater.alloc | ((try simp only [World.size_alloc, World.size_setCell, World.size_drew]); (try dsimp only); omega))
  · go_wp2_with fail
    first | refine settle_wp (fun wS => AnyLater w1 wS ∧ wS.heap[w1.heap.size]? = some (.cells #[.int .i64 (n2 : Int), .int .i64 R2, .int .i64 H2, .int .i64 (m2 : Int)] 247) ∧ wS.heap[w1.heap.size + 1]? = some (.cells #[.int .i64 (n1 : Int), .int .i64 R1, .int .i64 H1, .int .i64 (m1 : Int)] 247)) ?_ ?_ | refine settle_calls (fun wS => AnyLater w1 wS ∧ wS.heap[w1.heap.size]? = some (.cells #[.int .i64 (n2 : Int), .int .i64 R2, .int .i64 H2, .int .i64 (m2 : Int)] 247) ∧ wS.heap[w1.heap.size + 1]? = some (.cells #[.int .i64 (n1 : Int), .int .i64 R1, .int .i64 H1, .int .i64 (m1 : Int)] 247)) ?_ ?_
    · refine ⟨?_, ?_, ?_⟩
      · repeat' (first | with_reducible assumption | with_reducible exact AnyLater.refl _ | with_reducible apply AnyLater.setCell | with_reducible apply AnyLater.later | with_reducible apply AnyLater.drewN | with_reducible apply AnyLater.drew | with_reducible apply AnyLater.alloc | ((try simp only [World.size_alloc, World.size_setCell, World.size_drew]); (try dsimp only); omega))
      · ((repeat (first | with_reducible assumption | ((with_reducible apply heap_new); (try simp only [World.size_alloc, World.size_setCell, World.size_drew, World.heap_drewN]); done) | ((with_reducible apply heap_new); (try simp only [World.size_alloc, World.size_setCell, World.size_drew, World.heap_drewN]); omega) | (with_reducible refine heap_old (by (try simp only [World.size_alloc, World.size_setCell, World.size_drew, World.heap_drewN]); omega) ?_) | (with_reducible refine heap_drew ?_) | (with_reducible refine heap_far (by omega) ?_) | (with_reducible apply heap_at))); all_goals rfl)
      · ((repeat (first | with_reducible assumption | ((with_reducible apply heap_new); (try simp only [World.size_alloc, World.size_setCell, World.size_drew, World.heap_drewN]); done) | ((with_reducible apply heap_new); (try simp only [World.size_alloc, World.size_setCell, World.size_drew, World.heap_drewN]); omega) | (with_reducible refine heap_old (by (try simp only [World.size_alloc, World.size_setCell, World.size_drew, World.heap_drewN]); omega) ?_) | (with_reducible refine heap_drew ?_) | (with_reducible refine heap_far (by omega) ?_) | (with_reducible apply heap_at))); all_goals rfl)
    rintro w2 ⟨b_w2, s4_w2, s5_w2⟩
    have a_w2 := a_w1.trans b_w2
    have s0_w2 := any_own b_w2 s0_w1
    have s1_w2 := any_own b_w2 s1_w1
    have s2_w2 := any_own b_w2 s2_w1
    have s3_w2 := any_own b_w2 s3_w1
    have r0_w2 := own_row s0_w2
    have f0_w2 := own_free s0_w2
    have l0_w2 := own_lt s0_w2
    have r1_w2 := own_row s1_w2
    have f1_w2 := own_free s1_w2
    have l1_w2 := own_lt s1_w2
    have r2_w2 := own_row s2_w2
    have f2_w2 := own_free s2_w2
    have l2_w2 := own_lt s2_w2
    have r3_w2 := own_row s3_w2
    have f3_w2 := own_free s3_w2
    have l3_w2 := own_lt s3_w2
    (try clear r0_w1); (try clear f0_w1)
    (try clear r1_w1); (try clear f1_w1)
    (try clear r2_w1); (try clear f2_w1)
    (try clear r3_w1); (try clear f3_w1)
    have r4_w2 := own_row s4_w2
    have f4_w2 := own_free s4_w2
    have l4_w2 := own_lt s4_w2
    have r5_w2 := own_row s5_w2
    have f5_w2 := own_free s5_w2
    have l5_w2 := own_lt s5_w2
    have z_w2 := b_w2.below.size
    apply wp_region_free (12) [⟨4, 48, .agg #[.int .i64 (N : Int), .int .i64 R, .int .i64 H], false, fun v _ => v = .agg #[.int .i64 (N : Int), .int .i64 R, .int .i64 H]⟩] [] rfl (by kernel_rfl) (by kernel_rfl) (by kernel_rfl) (by simp) (by kernel_rfl)
    case hstab =>
      intro c hc
      simp only [List.mem_cons, List.not_mem_nil, or_false] at hc
      rcases hc with rfl
      · intro v x y hxy hv; exact hv
    case hfix =>
      intro c hc
      simp only [List.mem_cons, List.not_mem_nil, or_false] at hc
      rcases hc with rfl
      · exact .inr fun u x h => h
    case hlex =>
      intro U hU
      have q0 := own_row (any_own hU s0_w2)
      have q1 := own_row (any_own hU s1_w2)
      have q2 := own_row (any_own hU s2_w2)
      have q3 := own_row (any_own hU s3_w2)
      have q4 := own_row (any_own hU s4_w2)
      have q5 := own_row (any_own hU s5_w2)
      simp only [List.map_cons, List.map_nil, CA.act, actFrom, actOp, List.lookup, Nat.reduceBEq, Nat.reduceLeDiff, Nat.reduceAdd, if_false, if_true]
      repeat (go_big_quiet_step (fail))
      exact wpQuiet_nil rfl
    case hstep =>
      intro j hj o ho
      have hj2 : j = 0 := by simp at hj; omega
      rcases hj2 with rfl
      · cases ho
        refine ⟨rfl, fun g x hx hp => ?_⟩
        clear hp
        simp only [fillAll, Act.put, List.setIfInBounds_toArray, List.set_cons_zero, List.set_cons_succ]
        refine chain_go ?_ (free_fix (HA.out x))
        first | (simp [go_sem, execOp]; done) | simp [go_sem, execOp, hcf]
    case htail =>
      intro g u hst hne
      have b_w3 : AnyLater w2 (later u) := ⟨u, rfl⟩
      generalize later u = w3 at *
      clear u
      clear hst hne
      simp only [fillAll, Act.put, List.setIfInBounds_toArray, List.set_cons_zero, List.set_cons_succ, List.drop_succ_cons, List.drop_zero, List.drop_nil]
      have z_w3 := b_w3.below.size
      have a_w3 := a_w2.trans b_w3
      have s0_w3 := any_own b_w3 s0_w2
      have s1_w3 := any_own b_w3 s1_w2
      have s2_w3 := any_own b_w3 s2_w2
      have s3_w3 := any_own b_w3 s3_w2
      have s4_w3 := any_own b_w3 s4_w2
      have s5_w3 := any_own b_w3 s5_w2
      have r0_w3 := own_row s0_w3
      have f0_w3 := own_free s0_w3
      have l0_w3 := own_lt s0_w3
      have r1_w3 := own_row s1_w3
      have f1_w3 := own_free s1_w3
      have l1_w3 := own_lt s1_w3
      have r2_w3 := own_row s2_w3
      have f2_w3 := own_free s2_w3
      have l2_w3 := own_lt s2_w3
      have r3_w3 := own_row s3_w3
      have f3_w3 := own_free s3_w3
      have l3_w3 := own_lt s3_w3
      have r4_w3 := own_row s4_w3
      have f4_w3 := own_free s4_w3
      have l4_w3 := own_lt s4_w3
      have r5_w3 := own_row s5_w3
      have f5_w3 := own_free s5_w3
      have l5_w3 := own_lt s5_w3
      (try clear r0_w2); (try clear f0_w2)
      (try clear r1_w2); (try clear f1_w2)
      (try clear r2_w2); (try clear f2_w2)
      (try clear r3_w2); (try clear f3_w2)
      (try clear r4_w2); (try clear f4_w2)
      (try clear r5_w2); (try clear f5_w2)
      go_wp2_with fail
      refine bodyPost_ret (v := .agg #[.int .i64 (N : Int), .int .i64 R, .int .i64 H, .int .i64 ((1 + M : Nat) : Int)]) (by simp [results, Tryz.results260, go_sem, *]) rfl ⟨rfl, ?_⟩
      repeat' (first | with_reducible assumption | with_reducible exact AnyLater.refl _ | with_reducible apply AnyLater.setCell | with_reducible apply AnyLater.later | with_reducible apply AnyLater.drewN | with_reducible apply AnyLater.drew | with_reducible apply AnyLater.alloc | ((try simp only [World.size_alloc, World.size_setCell, World.size_drew]); (try dsimp only); omega))
end Go.Proofs.YtamhnffokoejjaaGreatDoor
namespace Go.Proofs.YtamhnffokoejjaaGreatDoor
set_option linter.unusedSimpArgs false
set_option linter.unusedVariables false
set_option linter.unusedSectionVars false
open Go.RowKit
variable {B : Nat}
set_option maxRecDepth 100000 in
theorem noted_leaf (v : Value) (l : Qs) (w : World) (hv : QR w v l) (hl : l.length ≤ 90000) (hT : Tls l) :
    Calls Tryz.prog 274 #[.agg #[.pointer none, .pointer none, v, .int .i64 0, .int .i64 0, .int .i64 0, .int .i64 0]] w fun e w' => ∃ g, e = .returned (.pointer (some ⟨g, 0, none⟩)) ∧ w.heap.size ≤ g ∧ AnyLater w w' ∧
      w'.heap[g]? = some (.cells #[.pointer none, .pointer none, v, .int .i64 (l.length : Int), .int .i64 (tlR l), .int .i64 (tlH l), .int .i64 1] 249) := by
  have HR := Lib.hid (fun (w' : World) (a : AnyLater w w') (k : Nat) hk => reckoned_leaf k (.pointer none) v (.int .i64 0) (.int .i64 0) (.int .i64 0) (.int .i64 0) l w' hk (hv.later a) hl hT)
  obtain ⟨A, cap, rfl, -⟩ := hv.form
  clear hv hl hT
  generalize l.length = n at *
  generalize tlR l = R at *
  generalize tlH l = H at *
  go_enter Tryz.func274, Tryz.ntmps274
  go_wp2_with fail
  first | refine settle_wp (fun wS => AnyLater w wS ∧ wS.heap[w.heap.size]? = some (.cells #[.pointer none, .pointer none, .slice A n cap, .int .i64 0, .int .i64 0, .int .i64 0, .int .i64 0] 249)) ?_ ?_ | refine settle_calls (fun wS => AnyLater w wS ∧ wS.heap[w.heap.size]? = some (.cells #[.pointer none, .pointer none, .slice A n cap, .int .i64 0, .int .i64 0, .int .i64 0, .int .i64 0] 249)) ?_ ?_
  · refine ⟨?_, ?_⟩
    · repeat' (first | with_reducible assumption | with_reducible exact AnyLater.refl _ | with_reducible apply AnyLater.setCell | with_reducible apply AnyLater.later | with_reducible apply AnyLater.drewN | with_reducible apply AnyLater.drew | with_reducible apply AnyLater.alloc | ((try simp only [World.size_alloc, World.size_setCell, World.size_drew]); (try dsimp only); omega))
    · ((repeat (first | with_reducible assumption | ((with_reducible apply heap_new); (try simp only [World.size_alloc, World.size_setCell, World.size_drew, World.heap_drewN]); done) | ((with_reducible apply heap_new); (try simp only [World.size_alloc, World.size_setCell, World.size_drew, World.heap_drewN]); omega) | (with_reducible refine heap_old (by (try simp only [World.size_alloc, World.size_setCell, World.size_drew, World.heap_drewN]); omega) ?_) | (with_reducible refine heap_drew ?_) | (with_reducible refine heap_far (by omega) ?_) | (with_reducible apply heap_at))); all_goals rfl)
  rintro w1 ⟨b_w1, s0_w1⟩
  have a_w1 := b_w1
  have r0_w1 := own_row s0_w1
  have f0_w1 := own_free s0_w1
  have l0_w1 := own_lt s0_w1
  have z_w1 := b_w1.below.size
  refine (HR.out _ a_w1 _ s0_w1).mono ?_
  rintro e w2 ⟨rfl, b_w2⟩
  have z_w2 := b_w2.below.size
  have a_w2 := a_w1.trans b_w2
  have s0_w2 := any_own b_w2 s0_w1
  have r0_w2 := own_row s0_w2
  have f0_w2 := own_free s0_w2
  have l0_w2 := own_lt s0_w2
  (try clear r0_w1); (try clear f0_w1)
  go_wp2_with fail
  go_ret
  refine ⟨_, rfl, Nat.le_refl _, by repeat' (first | with_reducible assumption | with_reducible exact AnyLater.refl _ | with_reducible apply AnyLater.setCell | with_reducible apply AnyLater.later | with_reducible apply AnyLater.drewN | with_reducible apply AnyLater.drew | with_reducible apply AnyLater.alloc | ((try simp only [World.size_alloc, World.size_setCell, World.size_drew]); (try dsimp only); omega)), ?_⟩
  ((repeat (first | with_reducible assumption | ((with_reducible apply heap_new); (try simp only [World.size_alloc, World.size_setCell, World.size_drew, World.heap_drewN]); done) | ((with_reducible apply heap_new); (try simp only [World.size_alloc, World.size_setCell, World.size_drew, World.heap_drewN]); omega) | (with_reducible refine heap_old (by (try simp only [World.size_alloc, World.size_setCell, World.size_drew, World.heap_drewN]); omega) ?_) | (with_reducible refine heap_drew ?_) | (with_reducible refine heap_far (by omega) ?_) | (with_reducible apply heap_at))); all_goals rfl)
set_option maxRecDepth 100000 in
theorem noted_two (k1 k2 : Nat) (a0 a1 a2 b0 b1 b2 : Value) (n1 n2 m1 m2 : Nat) (R1 H1 R2 H2 : Int) (w : World)
    (h1 : w.heap[k1]? = some (.cells #[a0, a1, a2, .int .i64 (n1 : Int), .int .i64 R1, .int .i64 H1, .int .i64 (m1 : Int)] 249)) (h2 : w.heap[k2]? = some (.cells #[b0, b1, b2, .int .i64 (n2 : Int), .int .i64 R2, .int .i64 H2, .int .i64 (m2 : Int)] 249))
    (bn : n1 + n2 ≤ 90000) (bm : m1 ≤ 90000 ∧ m2 ≤ 90000) (bR : 0 ≤ R1 + R2 ∧ R1 + R2 ≤ 9000000000000) (bH : 0 ≤ H1 + H2 ∧ H1 + H2 ≤ 9000000000000) :
    Calls Tryz.prog 274 #[.agg #[.pointer (some ⟨k1, 0, none⟩), .pointer (some ⟨k2, 0, none⟩), .slice none 0 0, .int .i64 0, .int .i64 0, .int .i64 0, .int .i64 0]] w fun e w' => ∃ g, e = .returned (.pointer (some ⟨g, 0, none⟩)) ∧ w.heap.size ≤ g ∧ AnyLater w w' ∧
      w'.heap[g]? = some (.cells #[.pointer (some ⟨k1, 0, none⟩), .pointer (some ⟨k2, 0, none⟩), .slice none 0 0, .int .i64 ((n1 + n2 : Nat) : Int), .int .i64 (R1 + R2), .int .i64 (H1 + H2), .int .i64 ((1 + max m1 m2 : Nat) : Int)] 249) := by
  have HR := Lib.hid (fun (w' : World) (a : AnyLater w w') (k : Nat) hk => reckoned_two k k1 k2 (.slice none 0 0) (.int .i64 0) (.int .i64 0) (.int .i64 0) (.int .i64 0) a0 a1 a2 b0 b1 b2 n1 n2 m1 m2 R1 H1 R2 H2 w' hk (any_own a h1) (any_own a h2) bn bm bR bH)
  clear h1 h2 bn bm bR bH
  generalize n1 + n2 = N at *
  generalize R1 + R2 = R at *
  generalize H1 + H2 = H at *
  generalize max m1 m2 = M at *
  go_enter Tryz.func274, Tryz.ntmps274
  go_wp2_with fail
  first | refine settle_wp (fun wS => AnyLater w wS ∧ wS.heap[w.heap.size]? = some (.cells #[.pointer (some ⟨k1, 0, none⟩), .pointer (some ⟨k2, 0, none⟩), .slice none 0 0, .int .i64 0, .int .i64 0, .int .i64 0, .int .i64 0] 249)) ?_ ?_ | refine settle_calls (fun wS => AnyLater w wS ∧ wS.heap[w.heap.size]? = some (.cells #[.pointer (some ⟨k1, 0, none⟩), .pointer (some ⟨k2, 0, none⟩), .slice none 0 0, .int .i64 0, .int .i64 0, .int .i64 0, .int .i64 0] 249)) ?_ ?_
  · refine ⟨?_, ?_⟩
    · repeat' (first | with_reducible assumption | with_reducible exact AnyLater.refl _ | with_reducible apply AnyLater.setCell | with_reducible apply AnyLater.later | with_reducible apply AnyLater.drewN | with_reducible apply AnyLater.drew | with_reducible apply AnyLater.alloc | ((try simp only [World.size_alloc, World.size_setCell, World.size_drew]); (try dsimp only); omega))
    · ((repeat (first | with_reducible assumption | ((with_reducible apply heap_new); (try simp only [World.size_alloc, World.size_setCell, World.size_drew, World.heap_drewN]); done) | ((with_reducible apply heap_new); (try simp only [World.size_alloc, World.size_setCell, World.size_drew, World.heap_drewN]); omega) | (with_reducible refine heap_old (by (try simp only [World.size_alloc, World.size_setCell, World.size_drew, World.heap_drewN]); omega) ?_) | (with_reducible refine heap_drew ?_) | (with_reducible refine heap_far (by omega) ?_) | (with_reducible apply heap_at))); all_goals rfl)
  rintro w1 ⟨b_w1, s0_w1⟩
  have a_w1 := b_w1
  have r0_w1 := own_row s0_w1
  have f0_w1 := own_free s0_w1
  have l0_w1 := own_lt s0_w1
  have z_w1 := b_w1.below.size
  refine (HR.out _ a_w1 _ s0_w1).mono ?_
  rintro e w2 ⟨rfl, b_w2⟩
  have z_w2 := b_w2.below.size
  have a_w2 := a_w1.trans b_w2
  have s0_w2 := any_own b_w2 s0_w1
  have r0_w2 := own_row s0_w2
  have f0_w2 := own_free s0_w2
  have l0_w2 := own_lt s0_w2
  (try clear r0_w1); (try clear f0_w1)
  go_wp2_with fail
  go_ret
  refine ⟨_, rfl, Nat.le_refl _, by repeat' (first | with_reducible assumption | with_reducible exact AnyLater.refl _ | with_reducible apply AnyLater.setCell | with_reducible apply AnyLater.later | with_reducible apply AnyLater.drewN | with_reducible apply AnyLater.drew | with_reducible apply AnyLater.alloc | ((try simp only [World.size_alloc, World.size_setCell, World.size_drew]); (try dsimp only); omega)), ?_⟩
  ((repeat (first | with_reducible assumption | ((with_reducible apply heap_new); (try simp only [World.size_alloc, World.size_setCell, World.size_drew, World.heap_drewN]); done) | ((with_reducible apply heap_new); (try simp only [World.size_alloc, World.size_setCell, World.size_drew, World.heap_drewN]); omega) | (with_reducible refine heap_old (by (try simp only [World.size_alloc, World.size_setCell, World.size_drew, World.heap_drewN]); omega) ?_) | (with_reducible refine heap_drew ?_) | (with_reducible refine heap_far (by omega) ?_) | (with_reducible apply heap_at))); all_goals rfl)
theorem IsH.noted {w : World} : ∀ {t : Ht} {v : Value} {F : List Nat}, IsH w t v F → t ≠ .nil → ∃ (k : Nat) (a b c : Value), v = .pointer (some ⟨k, 0, none⟩) ∧ w.heap[k]? = some (.cells (hnodeC a b c t) 249)
  | .nil, _, _, _, h => absurd rfl h
  | .leaf _ _, _, _, h, _ => by obtain ⟨k, _, h1, h2, h3, _⟩ := h; exact ⟨k, _, _, _, h1, h3⟩
  | .node _ _, _, _, h, _ => by obtain ⟨k, _, _, _, _, h1, h2, _, _, h3, _⟩ := h; exact ⟨k, _, _, _, h1, h3⟩
theorem isH.noted {t : Ht} {v : Value} {w : World} (h : isH B t v w) (n : t ≠ .nil) : ∃ (k : Nat) (a b c : Value), v = .pointer (some ⟨k, 0, none⟩) ∧ w.heap[k]? = some (.cells (hnodeC a b c t) 249) := by
  obtain ⟨_, F, hF, _⟩ := h
  exact hF.noted n
structure Ht.Fit (t : Ht) : Prop where
  full : t.Full
  tls : Tls t.hs
  most : t.hs.length ≤ 90000
theorem Ht.Fit.lev {t : Ht} (h : t.Fit) : t.lev ≤ 90000 := Nat.le_trans (Ht.lev_hs h.full) h.most
theorem Ht.Fit.sums {t : Ht} (h : t.Fit) : (0 ≤ tlR t.hs ∧ tlR t.hs ≤ 2000000000000) ∧ 0 ≤ tlH t.hs ∧ tlH t.hs ≤ 2000000000000 := by
  have h1 := h.tls.sums
  have h2 := h.most
  omega
theorem Ht.Fit.left {l r : Ht} (h : (Ht.node l r).Fit) : l.Fit := ⟨h.full.2.2.1, h.tls.left, by have := h.most; rw [Ht.hs, List.length_append] at this; omega⟩
theorem Ht.Fit.right {l r : Ht} (h : (Ht.node l r).Fit) : r.Fit := ⟨h.full.2.2.2, h.tls.right, by have := h.most; rw [Ht.hs, List.length_append] at this; omega⟩
set_option maxRecDepth 100000 in
theorem htie_any (l r : Ht) (lv rv : Value) (w : World) (hl : isH B l lv w) (hr : isH B r rv w) (hf : (Ht.node l r).Fit) :
    Calls Tryz.prog 273 #[lv, rv] w (HAns (isH B (.node l r)) w) := by
  obtain ⟨hB, F1, hl, hb1⟩ := hl
  obtain ⟨_, F2, hr, hb2⟩ := hr
  obtain ⟨k1, a0, a1, a2, rfl, h1⟩ := hl.noted hf.full.1
  obtain ⟨k2, b0, b1, b2, rfl, h2⟩ := hr.noted hf.full.2.1
  have f1 := hf.left.sums
  have f2 := hf.right.sums
  have f3 := hf.left.lev
  have f4 := hf.right.lev
  have f5 := hf.most
  rw [Ht.hs, List.length_append] at f5
  unfold hnodeC at h1 h2
  have HN := Lib.hid (noted_two k1 k2 a0 a1 a2 b0 b1 b2 l.hs.length r.hs.length l.lev r.lev (tlR l.hs) (tlH l.hs) (tlR r.hs) (tlH r.hs) w h1 h2 f5 ⟨f3, f4⟩ ⟨by omega, by omega⟩ ⟨by omega, by omega⟩)
  have HT : Hid (∀ (w' : World) (g : Nat), w.heap.size ≤ g → AnyLater w w' → w'.heap[g]? = some (.cells #[.pointer (some ⟨k1, 0, none⟩), .pointer (some ⟨k2, 0, none⟩), .slice none 0 0, .int .i64 ((l.hs.length + r.hs.length : Nat) : Int), .int .i64 (tlR l.hs + tlR r.hs), .int .i64 (tlH l.hs + tlH r.hs), .int .i64 ((1 + max l.lev r.lev : Nat) : Int)] 249) → isH B (.node l r) (.pointer (some ⟨g, 0, none⟩)) w') := Lib.hid (fun w' g hlg a hg => by
    refine ⟨Nat.le_trans hB a.below.size, _, ⟨g, _, _, F1, F2, rfl, rfl, hf.full.1, hf.full.2.1, ?_, hl.later a, hr.later a⟩, fun b q => ?_⟩
    · unfold hnodeC
      rw [Ht.hs, List.length_append, tlR_append, tlH_append]
      exact hg
    · rcases List.mem_cons.1 q with rfl | q
      · exact Nat.le_trans hB hlg
      · rcases List.mem_append.1 q with q | q
        · exact hb1 b q
        · exact hb2 b q)
  clear hl hr h1 h2 f1 f2 f3 f4 f5 hf hb1 hb2 hB
  generalize l.hs.length + r.hs.length = N at *
  generalize tlR l.hs + tlR r.hs = R at *
  generalize tlH l.hs + tlH r.hs = H at *
  generalize max l.lev r.lev = M at *
  go_enter Tryz.func273, Tryz.ntmps273
  go_wp2_with fail
  refine HN.out.mono ?_
  rintro e w1 ⟨g, rfl, hlg, b1, hg⟩
  have HG := Lib.hid (And.intro b1 (And.intro hg hlg))
  clear b1 hg hlg
  go_wp2_with fail
  go_ret
  exact ⟨_, rfl, HG.out.1, HT.out _ _ HG.out.2.2 HG.out.1 HG.out.2.1⟩
set_option maxRecDepth 100000 in
theorem hdeeper_any (l r : Ht) (lv rv : Value) (w : World) (c : Bool) (hc : decide (r.lev + 1 < l.lev) = c) (hl : isH B l lv w) (hr : isH B r rv w) (nl : l ≠ .nil) (nr : r ≠ .nil) (h1 : l.lev ≤ 90000) (h2 : r.lev ≤ 90000) :
    Calls Tryz.prog 271 #[lv, rv] w fun e w' => e = .returned (.bool c) ∧ AnyLater w w' := by
  obtain ⟨k1, a0, a1, a2, rfl, h3⟩ := hl.noted nl
  obtain ⟨k2, b0, b1, b2, rfl, h4⟩ := hr.noted nr
  have HC : Hid (decide ((r.lev : Int) + 1 < (l.lev : Int)) = c) := Lib.hid (by rw [← hc]; simp only [decide_eq_decide]; omega)
  unfold hnodeC at h3 h4
  have r1 := own_row h3
  have r2 := own_row h4
  clear hl hr hc h3 h4 nl nr
  generalize l.lev = x at *
  generalize r.lev = y at *
  go_enter Tryz.func271, Tryz.ntmps271
  go_wp2_with fail
  go_quiet (fail)
  go_wp2_with fail
  go_ret
  exact ⟨ret_bool HC.out, by repeat' (first | with_reducible assumption | with_reducible exact AnyLater.refl _ | with_reducible apply AnyLater.setCell | with_reducible apply AnyLater.later | with_reducible apply AnyLater.drewN | with_reducible apply AnyLater.drew | with_reducible apply AnyLater.alloc | ((try simp only [World.size_alloc, World.size_setCell, World.size_drew]); (try dsimp only); omega))⟩
end Go.Proofs.YtamhnffokoejjaaGreatDoor
