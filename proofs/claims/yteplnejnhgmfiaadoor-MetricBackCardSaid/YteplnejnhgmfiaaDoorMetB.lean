/- metric: how high rows are, and the row in which a height is, told by the program and by the document: by contract. -/
import Derived.Test.YteplnejnhgmfiaaDoorMetA
import Derived.Test.YteplnejnhgmfiaaDoorFree
import Derived.Deep.LoopGhost
import Derived.Deep.OwnRows
import Derived.Deep.QuietTactic
namespace Go.Proofs.YteplnejnhgmfiaaDoor
set_option linter.unusedSimpArgs false
set_option linter.unusedVariables false
set_option linter.unusedSectionVars false
open Go.RowKit

theorem mreaches_any (n : Int) (w : World) (c : Bool) (hc : decide (0 ≤ n ∧ n ≤ 1048576) = c) (hn : I64s n) : Calls Tryd.prog 39 #[.int .i64 n] w fun e w' => e = .returned (.bool c) ∧ w = w' := by
  obtain ⟨h1, h2⟩ := hn
  by_cases q : 0 ≤ n
  · have HC : Hid (decide (n ≤ 1048576) = c) := Lib.hid (by rw [← hc]; simp [q])
    clear hc
    go_enter Tryd.func39, Tryd.ntmps39
    go_wp2_with fail
    go_ret
    exact ⟨ret_bool HC.out, rfl⟩
  · have d0 : decide (0 ≤ n) = false := decide_eq_false q
    have HC : Hid (false = c) := Lib.hid (by rw [← hc]; simp [q])
    clear hc q
    go_enter Tryd.func39, Tryd.ntmps39
    go_wp2_with fail
    go_ret
    exact ⟨ret_bool HC.out, rfl⟩
set_option maxRecDepth 100000 in
set_option maxHeartbeats 1600000 in
theorem mheight_any (a1 a2 : Option Addr) (n1 c1 n2 c2 : Nat) (u d f t : Int) (la : Bool) (w : World) (c : Int) (hc : htZ u d = c) (hu : I64s u) (hd : I64s d) :
    Calls Tryd.prog 20 #[.agg #[.slice a1 n1 c1, .slice a2 n2 c2, .int .i64 u, .int .i64 d, .int .i64 f, .int .i64 t, .bool la]] w fun e w' => e = .returned (.int .i64 c) ∧ AnyLater w w' := by
  by_cases q : 0 ≤ u ∧ u ≤ 1048576
  · have H1 := Lib.hid (fun w => mreaches_any u w true (by simp [q]) hu)
    by_cases q2 : 0 ≤ d ∧ d ≤ 1048576
    · have H2 := Lib.hid (fun w => mreaches_any d w true (by simp [q2]) hd)
      have HC : Hid (u + d = c) := Lib.hid (by rw [← hc]; unfold htZ; rw [if_neg (by omega)])
      obtain ⟨q1, q3⟩ := q
      obtain ⟨q4, q5⟩ := q2
      clear hc hu hd
      go_enter Tryd.func20, Tryd.ntmps20
      go_wp2_with fail
      first | refine settle_wp (fun wS => AnyLater w wS ∧ wS.heap[w.heap.size]? = some (.cells #[.slice a1 n1 c1, .slice a2 n2 c2, .int .i64 u, .int .i64 d, .int .i64 f, .int .i64 t, .bool la] 43)) ?_ ?_ | refine settle_calls (fun wS => AnyLater w wS ∧ wS.heap[w.heap.size]? = some (.cells #[.slice a1 n1 c1, .slice a2 n2 c2, .int .i64 u, .int .i64 d, .int .i64 f, .int .i64 t, .bool la] 43)) ?_ ?_
      · refine ⟨?_, ?_⟩
        · repeat' (first | with_reducible assumption | with_reducible exact AnyLater.refl _ | with_reducible apply AnyLater.setCell | with_reducible apply AnyLater.later | with_reducible apply AnyLater.drewN | with_reducible apply AnyLater.drew | with_reducible apply AnyLater.alloc | ((try simp only [World.size_alloc, World.size_setCell, World.size_drew]); (try dsimp only); omega))
        · ((repeat (first | with_reducible assumption | ((with_reducible apply heap_new); (try simp only [World.size_alloc, World.size_setCell, World.size_drew, World.heap_drewN]); done) | ((with_reducible apply heap_new); (try simp only [World.size_alloc, World.size_setCell, World.size_drew, World.heap_drewN]); omega) | (with_reducible refine heap_old (by (try simp only [World.size_alloc, World.size_setCell, World.size_drew, World.heap_drewN]); omega) ?_) | (with_reducible refine heap_drew ?_) | (with_reducible refine heap_far (by omega) ?_) | (with_reducible apply heap_at))); all_goals rfl)
      rintro w1 ⟨b_w1, s0_w1⟩
      have a_w1 := b_w1
      have r0_w1 := own_row s0_w1
      have f0_w1 := own_free s0_w1
      have l0_w1 := own_lt s0_w1
      have z_w1 := b_w1.below.size
      refine (H1.out _).mono ?_
      rintro e w2 ⟨rfl, rfl⟩
      go_wp2_with fail
      refine (H2.out _).mono ?_
      rintro e w2 ⟨rfl, rfl⟩
      go_wp2_with fail
      go_ret
      exact ⟨ret_i64 HC.out, a_w1⟩
    · have H2 := Lib.hid (fun w => mreaches_any d w false (by simp only [decide_eq_false_iff_not]; exact q2) hd)
      have HC : Hid (0 = c) := Lib.hid (by rw [← hc]; unfold htZ; rw [if_pos (by omega)])
      clear hc hu hd q q2
      go_enter Tryd.func20, Tryd.ntmps20
      go_wp2_with fail
      first | refine settle_wp (fun wS => AnyLater w wS ∧ wS.heap[w.heap.size]? = some (.cells #[.slice a1 n1 c1, .slice a2 n2 c2, .int .i64 u, .int .i64 d, .int .i64 f, .int .i64 t, .bool la] 43)) ?_ ?_ | refine settle_calls (fun wS => AnyLater w wS ∧ wS.heap[w.heap.size]? = some (.cells #[.slice a1 n1 c1, .slice a2 n2 c2, .int .i64 u, .int .i64 d, .int .i64 f, .int .i64 t, .bool la] 43)) ?_ ?_
      · refine ⟨?_, ?_⟩
        · repeat' (first | with_reducible assumption | with_reducible exact AnyLater.refl _ | with_reducible apply AnyLater.setCell | with_reducible apply AnyLater.later | with_reducible apply AnyLater.drewN | with_reducible apply AnyLater.drew | with_reducible apply AnyLater.alloc | ((try simp only [World.size_alloc, World.size_setCell, World.size_drew]); (try dsimp only); omega))
        · ((repeat (first | with_reducible assumption | ((with_reducible apply heap_new); (try simp only [World.size_alloc, World.size_setCell, World.size_drew, World.heap_drewN]); done) | ((with_reducible apply heap_new); (try simp only [World.size_alloc, World.size_setCell, World.size_drew, World.heap_drewN]); omega) | (with_reducible refine heap_old (by (try simp only [World.size_alloc, World.size_setCell, World.size_drew, World.heap_drewN]); omega) ?_) | (with_reducible refine heap_drew ?_) | (with_reducible refine heap_far (by omega) ?_) | (with_reducible apply heap_at))); all_goals rfl)
      rintro w1 ⟨b_w1, s0_w1⟩
      have a_w1 := b_w1
      have r0_w1 := own_row s0_w1
      have f0_w1 := own_free s0_w1
      have l0_w1 := own_lt s0_w1
      have z_w1 := b_w1.below.size
      refine (H1.out _).mono ?_
      rintro e w2 ⟨rfl, rfl⟩
      go_wp2_with fail
      refine (H2.out _).mono ?_
      rintro e w2 ⟨rfl, rfl⟩
      go_wp2_with fail
      go_ret
      exact ⟨ret_i64 HC.out, a_w1⟩
  · have H1 := Lib.hid (fun w => mreaches_any u w false (by simp only [decide_eq_false_iff_not]; exact q) hu)
    have HC : Hid (0 = c) := Lib.hid (by rw [← hc]; unfold htZ; rw [if_pos (by omega)])
    clear hc hu hd q
    go_enter Tryd.func20, Tryd.ntmps20
    go_wp2_with fail
    first | refine settle_wp (fun wS => AnyLater w wS ∧ wS.heap[w.heap.size]? = some (.cells #[.slice a1 n1 c1, .slice a2 n2 c2, .int .i64 u, .int .i64 d, .int .i64 f, .int .i64 t, .bool la] 43)) ?_ ?_ | refine settle_calls (fun wS => AnyLater w wS ∧ wS.heap[w.heap.size]? = some (.cells #[.slice a1 n1 c1, .slice a2 n2 c2, .int .i64 u, .int .i64 d, .int .i64 f, .int .i64 t, .bool la] 43)) ?_ ?_
    · refine ⟨?_, ?_⟩
      · repeat' (first | with_reducible assumption | with_reducible exact AnyLater.refl _ | with_reducible apply AnyLater.setCell | with_reducible apply AnyLater.later | with_reducible apply AnyLater.drewN | with_reducible apply AnyLater.drew | with_reducible apply AnyLater.alloc | ((try simp only [World.size_alloc, World.size_setCell, World.size_drew]); (try dsimp only); omega))
      · ((repeat (first | with_reducible assumption | ((with_reducible apply heap_new); (try simp only [World.size_alloc, World.size_setCell, World.size_drew, World.heap_drewN]); done) | ((with_reducible apply heap_new); (try simp only [World.size_alloc, World.size_setCell, World.size_drew, World.heap_drewN]); omega) | (with_reducible refine heap_old (by (try simp only [World.size_alloc, World.size_setCell, World.size_drew, World.heap_drewN]); omega) ?_) | (with_reducible refine heap_drew ?_) | (with_reducible refine heap_far (by omega) ?_) | (with_reducible apply heap_at))); all_goals rfl)
    rintro w1 ⟨b_w1, s0_w1⟩
    have a_w1 := b_w1
    have r0_w1 := own_row s0_w1
    have f0_w1 := own_free s0_w1
    have l0_w1 := own_lt s0_w1
    have z_w1 := b_w1.below.size
    refine (H1.out _).mono ?_
    rintro e w2 ⟨rfl, rfl⟩
    go_wp2_with fail
    go_ret
    exact ⟨ret_i64 HC.out, a_w1⟩
set_option maxRecDepth 100000 in
set_option maxHeartbeats 1600000 in
theorem xheight_any (a1 a2 : Option Addr) (n1 c1 n2 c2 : Nat) (u d f t : Int) (la : Bool) (w : World) (c : Int) (hc : htZ u d = c) (hu : I64s u) (hd : I64s d) :
    Calls Tryd.prog 21 #[.agg #[.slice a1 n1 c1, .slice a2 n2 c2, .int .i64 u, .int .i64 d, .int .i64 f, .int .i64 t, .bool la]] w fun e w' => e = .returned (.int .i64 c) ∧ AnyLater w w' := by
  obtain ⟨hu1, hu2⟩ := hu
  obtain ⟨hd1, hd2⟩ := hd
  by_cases q1 : u < 0
  · have HC : Hid (0 = c) := Lib.hid (by rw [← hc]; unfold htZ; rw [if_pos (by omega)])
    clear hc
    go_enter Tryd.func21, Tryd.ntmps21
    go_wp2_with fail
    go_ret
    exact ⟨ret_i64 HC.out, by repeat' (first | with_reducible assumption | with_reducible exact AnyLater.refl _ | with_reducible apply AnyLater.setCell | with_reducible apply AnyLater.later | with_reducible apply AnyLater.drewN | with_reducible apply AnyLater.drew | with_reducible apply AnyLater.alloc | ((try simp only [World.size_alloc, World.size_setCell, World.size_drew]); (try dsimp only); omega))⟩
  · by_cases q2 : d < 0
    · have d1 : decide (u < 0) = false := decide_eq_false q1
      have HC : Hid (0 = c) := Lib.hid (by rw [← hc]; unfold htZ; rw [if_pos (by omega)])
      clear hc
      go_enter Tryd.func21, Tryd.ntmps21
      go_wp2_with fail
      go_ret
      exact ⟨ret_i64 HC.out, by repeat' (first | with_reducible assumption | with_reducible exact AnyLater.refl _ | with_reducible apply AnyLater.setCell | with_reducible apply AnyLater.later | with_reducible apply AnyLater.drewN | with_reducible apply AnyLater.drew | with_reducible apply AnyLater.alloc | ((try simp only [World.size_alloc, World.size_setCell, World.size_drew]); (try dsimp only); omega))⟩
    · have d1 : decide (u < 0) = false := decide_eq_false q1
      have d2 : decide (d < 0) = false := decide_eq_false q2
      by_cases q3 : 1048576 < u
      · have HC : Hid (0 = c) := Lib.hid (by rw [← hc]; unfold htZ; rw [if_pos (by omega)])
        clear hc
        go_enter Tryd.func21, Tryd.ntmps21
        go_wp2_with fail
        go_ret
        exact ⟨ret_i64 HC.out, by repeat' (first | with_reducible assumption | with_reducible exact AnyLater.refl _ | with_reducible apply AnyLater.setCell | with_reducible apply AnyLater.later | with_reducible apply AnyLater.drewN | with_reducible apply AnyLater.drew | with_reducible apply AnyLater.alloc | ((try simp only [World.size_alloc, World.size_setCell, World.size_drew]); (try dsimp only); omega))⟩
      · have d3 : decide (1048576 < u) = false := decide_eq_false q3
        by_cases q4 : 1048576 < d
        · have HC : Hid (0 = c) := Lib.hid (by rw [← hc]; unfold htZ; rw [if_pos (by omega)])
          clear hc
          go_enter Tryd.func21, Tryd.ntmps21
          go_wp2_with fail
          go_ret
          exact ⟨ret_i64 HC.out, by repeat' (first | with_reducible assumption | with_reducible exact AnyLater.refl _ | with_reducible apply AnyLater.setCell | with_reducible apply AnyLater.later | with_reducible apply AnyLater.drewN | with_reducible apply AnyLater.drew | with_reducible apply AnyLater.alloc | ((try simp only [World.size_alloc, World.size_setCell, World.size_drew]); (try dsimp only); omega))⟩
        · have d4 : decide (1048576 < d) = false := decide_eq_false q4
          have HC : Hid (u + d = c) := Lib.hid (by rw [← hc]; unfold htZ; rw [if_neg (by omega)])
          clear hc
          go_enter Tryd.func21, Tryd.ntmps21
          go_wp2_with fail
          go_ret
          exact ⟨ret_i64 HC.out, by repeat' (first | with_reducible assumption | with_reducible exact AnyLater.refl _ | with_reducible apply AnyLater.setCell | with_reducible apply AnyLater.later | with_reducible apply AnyLater.drewN | with_reducible apply AnyLater.drew | with_reducible apply AnyLater.alloc | ((try simp only [World.size_alloc, World.size_setCell, World.size_drew]); (try dsimp only); omega))⟩
end Go.Proofs.YteplnejnhgmfiaaDoor
