/- heights: what is told of no lines. -/
import Derived.Test.YtjoadlfkdkeomaaHgtT
import Derived.Test.YtjoadlfkdkeomaaSeqS
import Derived.LoopN
import Derived.Deep.LoopGhost
import Derived.BigRegion
import Derived.RegionTactic
import Derived.Shelf.Abstract
import Derived.ChangeKeysEq
import Derived.Deep.DeepCutAuto
import Derived.Deep.CutBlock
namespace Go.Proofs.Ytjoadlfkdkeomaa
set_option linter.unusedSimpArgs false
set_option linter.unusedVariables false
set_option linter.unusedSectionVars false
open Go.RowKit
variable {B : Nat}

set_option maxRecDepth 100000 in
theorem hghset_nil (i x y : Int) (w : World) : Calls Try.prog 27 #[.pointer none, .int .i64 i, .agg #[.int .i64 x, .int .i64 y]] w fun e w' => e = .returned (.int .i64 1) ∧ AnyLater w w' := by
  go_enter Try.func27, Try.ntmps27
  go_wp2_with fail
  go_ret
  exact ⟨rfl, by repeat' (first | with_reducible assumption | with_reducible exact AnyLater.refl _ | with_reducible apply AnyLater.setCell | with_reducible apply AnyLater.later | with_reducible apply AnyLater.drewN | with_reducible apply AnyLater.drew | with_reducible apply AnyLater.alloc | ((try simp only [World.size_alloc, World.size_setCell, World.size_drew]); (try dsimp only); omega))⟩
theorem opnN_nil (z : Int) : opnN [] z = 0 := by
  unfold opnN opnL
  rw [List.map_nil, List.take_nil]
  rfl
theorem pk_nil (y : Int) (h : y ≤ 0) : pkV (opnL []) y = .tuple #[.int .i64 0, .bool false] := by
  unfold pkV
  by_cases h0 : y < 0
  · rw [if_pos (.inl h0)]
  · rw [if_pos (.inr (by show (0 : Int) ≤ y; omega))]
theorem no_lines (w : World) : HV 0 w (.pointer none) [] [] := .inl ⟨rfl, rfl, rfl⟩
set_option maxRecDepth 100000 in
set_option maxHeartbeats 3200000 in
theorem heightsNone_any (k i n x y : Int) (u : Value) (on : Bool) (w : World) (hi : -9223372036854775808 ≤ i) (hn : n ≤ 9223372036854775807) : Calls Try.prog 6 #[.agg #[.int .i64 k, .int .i64 i, .int .i64 n, .int .i64 x, .int .i64 y, u, .bool on]] w fun e w' => e = .returned (.bool true) ∧ AnyLater w w' := by
  have HFu := Lib.hid (fun w' => hgfull_any (.pointer none) [] [] i w' _ (getV_none (by simp)) (no_lines w'))
  have HLi := Lib.hid (fun w' => hgline_any (.pointer none) [] [] n w' hn (-1) 0 rfl (no_lines w'))
  have HNx := Lib.hid (fun w' => hgnext_any (.pointer none) [] [] i w' hi _ (pk_nil _ (by rw [opnN_nil]; decide)) (no_lines w'))
  have HPr := Lib.hid (fun w' => hgprev_any (.pointer none) [] [] i w' _ (pk_nil _ (by rw [opnN_nil]; decide)) (no_lines w'))
  have HLen := Lib.hid (fun w' => hglen_any (.pointer none) [] [] w' (no_lines w'))
  have HSp := Lib.hid (fun w' => hghsp_nil i n (.slice none 0 0) w' ⟨_, _, _, rfl⟩)
  have HSe := Lib.hid (fun w' => hghset_nil i x y w')
  have HHi := Lib.hid (fun w' => hghide_out (.pointer none) [] [] i true w' (no_lines w') (by simp))
  have HHd := Lib.hid (fun w' => hghidden_any (.pointer none) [] [] i w' (no_lines w'))
  have hz : hidB [] i = false := by unfold hidB; rw [dif_neg (by simp)]
  rw [hz] at HHd
  have HTp := Lib.hid (fun w' => hgtop_any (.pointer none) [] [] i w' 0 (by show tlH (List.take _ []) = 0; rw [List.take_nil]; rfl) (no_lines w'))
  have HTo := Lib.hid (fun w' => hgtotal_any (.pointer none) [] [] w' 0 0 rfl rfl (no_lines w'))
  have HLv := Lib.hid (fun w' => hlives_any w')
  have ez := eqlTall
  have gz := guard_tall
  clear hz
  go_enter Try.func6, Try.ntmps6
  go_wp2_with fail
  first | refine settle_wp (fun wS => AnyLater w wS ∧ wS.heap[w.heap.size]? = some (.cells #[.int .i64 k, .int .i64 i, .int .i64 n, .int .i64 x, .int .i64 y, u, .bool on] 35)) ?_ ?_ | refine settle_calls (fun wS => AnyLater w wS ∧ wS.heap[w.heap.size]? = some (.cells #[.int .i64 k, .int .i64 i, .int .i64 n, .int .i64 x, .int .i64 y, u, .bool on] 35)) ?_ ?_
  · refine ⟨?_, ?_⟩
    · repeat' (first | with_reducible assumption | with_reducible exact AnyLater.refl _ | with_reducible apply AnyLater.setCell | with_reducible apply AnyLater.later | with_reducible apply AnyLater.drewN | with_reducible apply AnyLater.drew | with_reducible apply AnyLater.alloc | ((try simp only [World.size_alloc, World.size_setCell, World.size_drew]); (try dsimp only); omega))
    · ((repeat (first | with_reducible assumption | ((with_reducible apply heap_new); (try simp only [World.size_alloc, World.size_setCell, World.size_drew, World.heap_drewN]); done) | ((with_reducible apply heap_new); (try simp only [World.size_alloc, World.size_setCell, World.size_drew, World.heap_drewN]); omega) | (with_reducible refine heap_old (by (try simp only [World.size_alloc, World.size_setCell, World.size_drew, World.heap_drewN]); omega) ?_) | (with_reducible refine heap_drew ?_) | (with_reducible refine heap_far (by omega) ?_) | (with_reducible apply heap_at))); all_goals rfl)
  rintro w1 ⟨b_w1, s0_w1⟩
  have a_w1 := b_w1
  have r0_w1 := own_row s0_w1
  have f0_w1 := own_free s0_w1
  have l0_w1 := own_lt s0_w1
  have z_w1 := b_w1.below.size
  refine (HFu.out _).mono ?_
  rintro e w2 ⟨rfl, b_w2⟩
  have z_w2 := b_w2.below.size
  have a_w2 := a_w1.trans b_w2
  have s0_w2 := any_own b_w2 s0_w1
  have r0_w2 := own_row s0_w2
  have f0_w2 := own_free s0_w2
  have l0_w2 := own_lt s0_w2
  (try clear r0_w1); (try clear f0_w1)
  go_wp2_with fail
  first | refine settle_wp (fun wS => AnyLater w2 wS ∧ wS.heap[w2.heap.size]? = some (.cells #[.int .i64 0, .int .i64 0] 33)) ?_ ?_ | refine settle_calls (fun wS => AnyLater w2 wS ∧ wS.heap[w2.heap.size]? = some (.cells #[.int .i64 0, .int .i64 0] 33)) ?_ ?_
  · refine ⟨?_, ?_⟩
    · repeat' (first | with_reducible assumption | with_reducible exact AnyLater.refl _ | with_reducible apply AnyLater.setCell | with_reducible apply AnyLater.later | with_reducible apply AnyLater.drewN | with_reducible apply AnyLater.drew | with_reducible apply AnyLater.alloc | ((try simp only [World.size_alloc, World.size_setCell, World.size_drew]); (try dsimp only); omega))
    · ((repeat (first | with_reducible assumption | ((with_reducible apply heap_new); (try simp only [World.size_alloc, World.size_setCell, World.size_drew, World.heap_drewN]); done) | ((with_reducible apply heap_new); (try simp only [World.size_alloc, World.size_setCell, World.size_drew, World.heap_drewN]); omega) | (with_reducible refine heap_old (by (try simp only [World.size_alloc, World.size_setCell, World.size_drew, World.heap_drewN]); omega) ?_) | (with_reducible refine heap_drew ?_) | (with_reducible refine heap_far (by omega) ?_) | (with_reducible apply heap_at))); all_goals rfl)
  rintro w3 ⟨b_w3, s1_w3⟩
  have a_w3 := a_w2.trans b_w3
  have s0_w3 := any_own b_w3 s0_w2
  have r0_w3 := own_row s0_w3
  have f0_w3 := own_free s0_w3
  have l0_w3 := own_lt s0_w3
  (try clear r0_w2); (try clear f0_w2)
  have r1_w3 := own_row s1_w3
  have f1_w3 := own_free s1_w3
  have l1_w3 := own_lt s1_w3
  have z_w3 := b_w3.below.size
  refine (HLi.out _).mono ?_
  rintro e w4 ⟨rfl, b_w4⟩
  have z_w4 := b_w4.below.size
  have a_w4 := a_w3.trans b_w4
  have s0_w4 := any_own b_w4 s0_w3
  have r0_w4 := own_row s0_w4
  have f0_w4 := own_free s0_w4
  have l0_w4 := own_lt s0_w4
  (try clear r0_w3); (try clear f0_w3)
  go_wp2_with fail
  refine (HNx.out _).mono ?_
  rintro e w5 ⟨rfl, b_w5⟩
  have z_w5 := b_w5.below.size
  have a_w5 := a_w4.trans b_w5
  have s0_w5 := any_own b_w5 s0_w4
  have r0_w5 := own_row s0_w5
  have f0_w5 := own_free s0_w5
  have l0_w5 := own_lt s0_w5
  (try clear r0_w4); (try clear f0_w4)
  go_wp2_with fail
  refine (HPr.out _).mono ?_
  rintro e w6 ⟨rfl, b_w6⟩
  have z_w6 := b_w6.below.size
  have a_w6 := a_w5.trans b_w6
  have s0_w6 := any_own b_w6 s0_w5
  have r0_w6 := own_row s0_w6
  have f0_w6 := own_free s0_w6
  have l0_w6 := own_lt s0_w6
  (try clear r0_w5); (try clear f0_w5)
  go_wp2_with fail
  refine (HLen.out _).mono ?_
  rintro e w7 ⟨rfl, b_w7⟩
  have z_w7 := b_w7.below.size
  have a_w7 := a_w6.trans b_w7
  have s0_w7 := any_own b_w7 s0_w6
  have r0_w7 := own_row s0_w7
  have f0_w7 := own_free s0_w7
  have l0_w7 := own_lt s0_w7
  (try clear r0_w6); (try clear f0_w6)
  go_wp2_with fail
  refine (HSp.out _).mono ?_
  rintro e w8 ⟨rfl, b_w8⟩
  have z_w8 := b_w8.below.size
  have a_w8 := a_w7.trans b_w8
  have s0_w8 := any_own b_w8 s0_w7
  have r0_w8 := own_row s0_w8
  have f0_w8 := own_free s0_w8
  have l0_w8 := own_lt s0_w8
  (try clear r0_w7); (try clear f0_w7)
  go_wp2_with fail
  refine (HSe.out _).mono ?_
  rintro e w9 ⟨rfl, b_w9⟩
  have z_w9 := b_w9.below.size
  have a_w9 := a_w8.trans b_w9
  have s0_w9 := any_own b_w9 s0_w8
  have r0_w9 := own_row s0_w9
  have f0_w9 := own_free s0_w9
  have l0_w9 := own_lt s0_w9
  (try clear r0_w8); (try clear f0_w8)
  go_wp2_with fail
  refine (HHi.out _).mono ?_
  rintro e w10 ⟨rfl, b_w10⟩
  have z_w10 := b_w10.below.size
  have a_w10 := a_w9.trans b_w10
  have s0_w10 := any_own b_w10 s0_w9
  have r0_w10 := own_row s0_w10
  have f0_w10 := own_free s0_w10
  have l0_w10 := own_lt s0_w10
  (try clear r0_w9); (try clear f0_w9)
  go_wp2_with fail
  refine (HHd.out _).mono ?_
  rintro e w11 ⟨rfl, b_w11⟩
  have z_w11 := b_w11.below.size
  have a_w11 := a_w10.trans b_w11
  have s0_w11 := any_own b_w11 s0_w10
  have r0_w11 := own_row s0_w11
  have f0_w11 := own_free s0_w11
  have l0_w11 := own_lt s0_w11
  (try clear r0_w10); (try clear f0_w10)
  go_wp2_with fail
  refine (HTp.out _).mono ?_
  rintro e w12 ⟨rfl, b_w12⟩
  have z_w12 := b_w12.below.size
  have a_w12 := a_w11.trans b_w12
  have s0_w12 := any_own b_w12 s0_w11
  have r0_w12 := own_row s0_w12
  have f0_w12 := own_free s0_w12
  have l0_w12 := own_lt s0_w12
  (try clear r0_w11); (try clear f0_w11)
  go_wp2_with fail
  refine (HTo.out _).mono ?_
  rintro e w13 ⟨rfl, b_w13⟩
  have z_w13 := b_w13.below.size
  have a_w13 := a_w12.trans b_w13
  have s0_w13 := any_own b_w13 s0_w12
  have r0_w13 := own_row s0_w13
  have f0_w13 := own_free s0_w13
  have l0_w13 := own_lt s0_w13
  (try clear r0_w12); (try clear f0_w12)
  go_wp2_with fail
  refine (HLv.out _).mono ?_
  rintro e w14 ⟨rfl, b_w14⟩
  have z_w14 := b_w14.below.size
  have a_w14 := a_w13.trans b_w14
  have s0_w14 := any_own b_w14 s0_w13
  have r0_w14 := own_row s0_w14
  have f0_w14 := own_free s0_w14
  have l0_w14 := own_lt s0_w14
  (try clear r0_w13); (try clear f0_w13)
  go_wp2_with fail
  go_ret
  exact ⟨rfl, a_w14⟩
end Go.Proofs.Ytjoadlfkdkeomaa
