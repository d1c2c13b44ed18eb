/- rope: RopeNone, walked: what is told of no text. -/
import Derived.Test.YtiiojgneljgakaaRopT
namespace Go.Proofs.Ytiiojgneljgakaa
set_option linter.unusedSimpArgs false
set_option linter.unusedVariables false
set_option linter.unusedSectionVars false
open Go.RowKit

set_option maxRecDepth 100000 in
set_option maxHeartbeats 1600000 in
theorem ropeNone_any (k a n : Int) (bv : Value) (b : List Int) (w : World) (hb : RN .u8 w bv b) : Calls Try.prog 5 #[.agg #[.int .i64 k, .int .i64 a, .int .i64 n, bv]] w fun e w' => e = .returned (.bool true) ∧ AnyLater w w' := by
  have hN : ∀ w', IsRN w' (.pointer none) .nil := fun w' => .inl ⟨rfl, rfl⟩
  have ok : Tr.nil.Ok := ⟨trivial, trivial, Nat.zero_le _⟩
  have HD := Lib.hid (fun w' => rdel_nil a n w')
  have HB : Hid (∀ w', Calls Try.prog 8 #[.pointer none, .int .i64 a] w' fun e w'' => e = .returned (.tuple #[.int .u8 0, .bool false]) ∧ AnyLater w' w'') := Lib.hid (fun w' => rbyte_no _ .nil a w' (hN w') (Nat.zero_le _) (by simp only [Tr.len]; omega))
  have HK : Hid (∀ w', Calls Try.prog 12 #[.pointer none, .int .i64 n] w' fun e w'' => e = .returned (.tuple #[.int .i64 0, .bool false]) ∧ AnyLater w' w'') := Lib.hid (fun w' => rbreak_no _ .nil n w' (hN w') (by simp only [Tr.nf]; omega))
  have HI := Lib.hid (fun w' => rins_nil a (.slice none 0 0) w')
  have HL : Hid (∀ w', Calls Try.prog 19 #[.pointer none] w' fun e w'' => e = .returned (.int .i64 0) ∧ AnyLater w' w'') := Lib.hid (fun w' => rlen_any _ .nil w' (hN w'))
  have HBr : Hid (∀ w', Calls Try.prog 20 #[.pointer none] w' fun e w'' => e = .returned (.int .i64 0) ∧ AnyLater w' w'') := Lib.hid (fun w' => rbreaks_any _ .nil w' (hN w'))
  have HPi : Hid (∀ w', Calls Try.prog 21 #[.pointer none] w' fun e w'' => e = .returned (.int .i64 0) ∧ AnyLater w' w'') := Lib.hid (fun w' => rpieces_any _ .nil w' (hN w'))
  have HP := Lib.hid (fun w' => rpart_any (.pointer none) .nil 0 5 [] (by simp [cutZ, Tr.bs]) w' (hN w') ok)
  have HA : Hid (∀ w', Calls Try.prog 13 #[.pointer none, .int .i64 a] w' fun e w'' => e = .returned (.int .i64 0) ∧ AnyLater w' w'') := Lib.hid (fun w' => rahead_any _ .nil a 0 w' rfl (hN w') ok)
  have HC := Lib.hid (fun w' => rcheck_nil w')
  have HV := Lib.hid (fun w' => rlives w')
  obtain ⟨A, cap, rfl, -⟩ := hb.form
  clear hN ok hb
  generalize b.length = m at *
  go_enter Try.func5, Try.ntmps5
  go_wp2_with fail
  first | refine settle_wp (fun wS => AnyLater w wS ∧ wS.heap[w.heap.size]? = some (.cells #[.int .i64 k, .int .i64 a, .int .i64 n, .slice A m cap] 34)) ?_ ?_ | refine settle_calls (fun wS => AnyLater w wS ∧ wS.heap[w.heap.size]? = some (.cells #[.int .i64 k, .int .i64 a, .int .i64 n, .slice A m cap] 34)) ?_ ?_
  · refine ⟨?_, ?_⟩
    · repeat' (first | with_reducible assumption | with_reducible exact AnyLater.refl _ | with_reducible apply AnyLater.setCell | with_reducible apply AnyLater.later | with_reducible apply AnyLater.drewN | with_reducible apply AnyLater.drew | with_reducible apply AnyLater.alloc | ((try simp only [World.size_alloc, World.size_setCell, World.size_drew]); (try dsimp only); omega))
    · ((repeat (first | with_reducible assumption | ((with_reducible apply heap_new); (try simp only [World.size_alloc, World.size_setCell, World.size_drew, World.heap_drewN]); done) | ((with_reducible apply heap_new); (try simp only [World.size_alloc, World.size_setCell, World.size_drew, World.heap_drewN]); omega) | (with_reducible refine heap_old (by (try simp only [World.size_alloc, World.size_setCell, World.size_drew, World.heap_drewN]); omega) ?_) | (with_reducible refine heap_drew ?_) | (with_reducible refine heap_far (by omega) ?_) | (with_reducible apply heap_at))); all_goals rfl)
  rintro w1 ⟨b_w1, s0_w1⟩
  have a_w1 := b_w1
  have r0_w1 := own_row s0_w1
  have f0_w1 := own_free s0_w1
  have l0_w1 := own_lt s0_w1
  have z_w1 := b_w1.below.size
  refine (HD.out _).mono ?_
  rintro e w2 ⟨rfl, b_w2⟩
  have z_w2 := b_w2.below.size
  have a_w2 := a_w1.trans b_w2
  have s0_w2 := any_own b_w2 s0_w1
  have r0_w2 := own_row s0_w2
  have f0_w2 := own_free s0_w2
  have l0_w2 := own_lt s0_w2
  (try clear r0_w1); (try clear f0_w1)
  go_wp2_with fail
  refine (HB.out _).mono ?_
  rintro e w3 ⟨rfl, b_w3⟩
  have z_w3 := b_w3.below.size
  have a_w3 := a_w2.trans b_w3
  have s0_w3 := any_own b_w3 s0_w2
  have r0_w3 := own_row s0_w3
  have f0_w3 := own_free s0_w3
  have l0_w3 := own_lt s0_w3
  (try clear r0_w2); (try clear f0_w2)
  go_wp2_with fail
  refine (HK.out _).mono ?_
  rintro e w4 ⟨rfl, b_w4⟩
  have z_w4 := b_w4.below.size
  have a_w4 := a_w3.trans b_w4
  have s0_w4 := any_own b_w4 s0_w3
  have r0_w4 := own_row s0_w4
  have f0_w4 := own_free s0_w4
  have l0_w4 := own_lt s0_w4
  (try clear r0_w3); (try clear f0_w3)
  go_wp2_with fail
  refine (HI.out _).mono ?_
  rintro e w5 ⟨rfl, b_w5⟩
  have z_w5 := b_w5.below.size
  have a_w5 := a_w4.trans b_w5
  have s0_w5 := any_own b_w5 s0_w4
  have r0_w5 := own_row s0_w5
  have f0_w5 := own_free s0_w5
  have l0_w5 := own_lt s0_w5
  (try clear r0_w4); (try clear f0_w4)
  go_wp2_with fail
  refine (HL.out _).mono ?_
  rintro e w6 ⟨rfl, b_w6⟩
  have z_w6 := b_w6.below.size
  have a_w6 := a_w5.trans b_w6
  have s0_w6 := any_own b_w6 s0_w5
  have r0_w6 := own_row s0_w6
  have f0_w6 := own_free s0_w6
  have l0_w6 := own_lt s0_w6
  (try clear r0_w5); (try clear f0_w5)
  go_wp2_with fail
  refine (HBr.out _).mono ?_
  rintro e w7 ⟨rfl, b_w7⟩
  have z_w7 := b_w7.below.size
  have a_w7 := a_w6.trans b_w7
  have s0_w7 := any_own b_w7 s0_w6
  have r0_w7 := own_row s0_w7
  have f0_w7 := own_free s0_w7
  have l0_w7 := own_lt s0_w7
  (try clear r0_w6); (try clear f0_w6)
  go_wp2_with fail
  refine (HP.out _).mono ?_
  rintro e w8 ⟨u, rfl, b_w8, hu⟩
  have z_w8 := b_w8.below.size
  have a_w8 := a_w7.trans b_w8
  have s0_w8 := any_own b_w8 s0_w7
  have r0_w8 := own_row s0_w8
  have f0_w8 := own_free s0_w8
  have l0_w8 := own_lt s0_w8
  (try clear r0_w7); (try clear f0_w7)
  obtain ⟨A8, cap8, rfl, -⟩ := isB.form hu
  clear hu
  simp only [List.length_nil]
  go_wp2_with fail
  refine (HA.out _).mono ?_
  rintro e w9 ⟨rfl, b_w9⟩
  have z_w9 := b_w9.below.size
  have a_w9 := a_w8.trans b_w9
  have s0_w9 := any_own b_w9 s0_w8
  have r0_w9 := own_row s0_w9
  have f0_w9 := own_free s0_w9
  have l0_w9 := own_lt s0_w9
  (try clear r0_w8); (try clear f0_w8)
  go_wp2_with fail
  refine (HPi.out _).mono ?_
  rintro e wa ⟨rfl, b_wa⟩
  have z_wa := b_wa.below.size
  have a_wa := a_w9.trans b_wa
  have s0_wa := any_own b_wa s0_w9
  have r0_wa := own_row s0_wa
  have f0_wa := own_free s0_wa
  have l0_wa := own_lt s0_wa
  (try clear r0_w9); (try clear f0_w9)
  go_wp2_with fail
  refine (HC.out _).mono ?_
  rintro e wb ⟨rfl, b_wb⟩
  have z_wb := b_wb.below.size
  have a_wb := a_wa.trans b_wb
  have s0_wb := any_own b_wb s0_wa
  have r0_wb := own_row s0_wb
  have f0_wb := own_free s0_wb
  have l0_wb := own_lt s0_wb
  (try clear r0_wa); (try clear f0_wa)
  go_wp2_with fail
  refine (HV.out _).mono ?_
  rintro e wc ⟨rfl, b_wc⟩
  have z_wc := b_wc.below.size
  have a_wc := a_wb.trans b_wc
  have s0_wc := any_own b_wc s0_wb
  have r0_wc := own_row s0_wc
  have f0_wc := own_free s0_wc
  have l0_wc := own_lt s0_wc
  (try clear r0_wb); (try clear f0_wb)
  go_wp2_with fail
  go_ret
  exact ⟨rfl, a_wc⟩
end Go.Proofs.Ytiiojgneljgakaa
