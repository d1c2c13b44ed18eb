/- what the proof stands on: ScnS -/
import Derived.Test.YtamhnffokoejjaaGreatDoorKnbo
namespace Go.Proofs.YtamhnffokoejjaaGreatDoor
set_option linter.unusedSimpArgs false
set_option linter.unusedVariables false
set_option linter.unusedSectionVars false
open Go.RowKit
section
set_option maxRecDepth 100000
theorem nil_text (w : World) : Calls Tryz.prog 17 #[.pointer none] w fun e w' => e = .returned (.pointer none) ∧ AnyLater w w' := by
  go_enter Tryz.func17, Tryz.ntmps17
  go_wp2_with fail
  go_ret
  exact ⟨rfl, AnyLater.refl _⟩
theorem nil_heights (w : World) : Calls Tryz.prog 26 #[.pointer none] w fun e w' => e = .returned (.pointer none) ∧ AnyLater w w' := by
  go_enter Tryz.func26, Tryz.ntmps26
  go_wp2_with fail
  go_ret
  exact ⟨rfl, AnyLater.refl _⟩
theorem nil_width (w : World) : Calls Tryz.prog 19 #[.pointer none] w fun e w' => e = .returned (.int .i64 0) ∧ AnyLater w w' := by
  go_enter Tryz.func19, Tryz.ntmps19
  go_wp2_with fail
  go_ret
  exact ⟨rfl, AnyLater.refl _⟩
theorem nil_laid (w : World) : Calls Tryz.prog 16 #[.pointer none] w fun e w' => e = .returned (.int .i64 0) ∧ AnyLater w w' := by
  go_enter Tryz.func16, Tryz.ntmps16
  go_wp2_with fail
  go_ret
  exact ⟨rfl, AnyLater.refl _⟩
theorem nil_runs (w : World) : Calls Tryz.prog 21 #[.pointer none] w fun e w' => e = .returned (.slice none 0 0) ∧ AnyLater w w' := by
  go_enter Tryz.func21, Tryz.ntmps21
  go_wp2_with fail
  go_ret
  exact ⟨rfl, AnyLater.refl _⟩
theorem nil_folds (w : World) : Calls Tryz.prog 22 #[.pointer none] w fun e w' => e = .returned (.slice none 0 0) ∧ AnyLater w w' := by
  go_enter Tryz.func22, Tryz.ntmps22
  go_wp2_with fail
  go_ret
  exact ⟨rfl, AnyLater.refl _⟩
theorem nil_rows (k : Int) (w : World) : Calls Tryz.prog 25 #[.pointer none, .int .i64 k] w fun e w' => e = .returned (.slice none 0 0) ∧ AnyLater w w' := by
  go_enter Tryz.func25, Tryz.ntmps25
  go_wp2_with fail
  go_ret
  exact ⟨rfl, AnyLater.refl _⟩
theorem nil_style (a b c : Int) (w : World) : Calls Tryz.prog 31 #[.pointer none, .int .i64 a, .int .i64 b, .int .i64 c] w fun e w' => e = .returned (.int .i64 1) ∧ AnyLater w w' := by
  go_enter Tryz.func31, Tryz.ntmps31
  go_wp2_with fail
  go_ret
  exact ⟨rfl, AnyLater.refl _⟩
theorem nil_fold (a b : Int) (w : World) : Calls Tryz.prog 32 #[.pointer none, .agg #[.int .i64 a, .int .i64 b]] w fun e w' => e = .returned (.int .i64 1) ∧ AnyLater w w' := by
  go_enter Tryz.func32, Tryz.ntmps32
  go_wp2_with fail
  go_ret
  refine ⟨rfl, ?_⟩
  repeat' (first | with_reducible assumption | with_reducible exact AnyLater.refl _ | with_reducible apply AnyLater.setCell | with_reducible apply AnyLater.later | with_reducible apply AnyLater.drewN | with_reducible apply AnyLater.drew | with_reducible apply AnyLater.alloc | ((try simp only [World.size_alloc, World.size_setCell, World.size_drew]); (try dsimp only); omega))
theorem nil_unfold (a : Int) (w : World) : Calls Tryz.prog 33 #[.pointer none, .int .i64 a] w fun e w' => e = .returned (.int .i64 1) ∧ AnyLater w w' := by
  go_enter Tryz.func33, Tryz.ntmps33
  go_wp2_with fail
  go_ret
  exact ⟨rfl, AnyLater.refl _⟩
theorem nil_edit (a b : Int) (w : World) : Calls Tryz.prog 30 #[.pointer none, .int .i64 a, .int .i64 b, .slice none 0 0] w fun e w' => e = .returned (.tuple #[.slice none 0 0, .int .i64 1]) ∧ AnyLater w w' := by
  go_enter Tryz.func30, Tryz.ntmps30
  go_wp2_with fail
  exact bodyPost_ret (v := .tuple #[.slice none 0 0, .int .i64 1]) (by simp [results, Tryz.results30, go_sem]) rfl ⟨rfl, AnyLater.refl _⟩
theorem nil_resize (n : Int) (w : World) : Calls Tryz.prog 29 #[.pointer none, .int .i64 n] w fun e w' => e = .returned (.tuple #[]) ∧ AnyLater w w' := by
  go_enter Tryz.func29, Tryz.ntmps29
  go_wp2_with fail
  go_quiet (fail)
  go_wp2_with fail
  refine bodyPost_ret (v := .tuple #[]) (by simp [results, Tryz.results29, go_sem]) rfl ⟨rfl, ?_⟩
  repeat' (first | with_reducible assumption | with_reducible exact AnyLater.refl _ | with_reducible apply AnyLater.setCell | with_reducible apply AnyLater.later | with_reducible apply AnyLater.drewN | with_reducible apply AnyLater.drew | with_reducible apply AnyLater.alloc | ((try simp only [World.size_alloc, World.size_setCell, World.size_drew]); (try dsimp only); omega))
theorem nil_dress (w : World) : Calls Tryz.prog 20 #[.pointer none, .slice none 0 0, .slice none 0 0] w fun e w' => e = .returned (.int .i64 1) ∧ AnyLater w w' := by
  go_enter Tryz.func20, Tryz.ntmps20
  go_wp2_with fail
  go_quiet (fail)
  go_wp2_with fail
  go_ret
  refine ⟨rfl, ?_⟩
  repeat' (first | with_reducible assumption | with_reducible exact AnyLater.refl _ | with_reducible apply AnyLater.setCell | with_reducible apply AnyLater.later | with_reducible apply AnyLater.drewN | with_reducible apply AnyLater.drew | with_reducible apply AnyLater.alloc | ((try simp only [World.size_alloc, World.size_setCell, World.size_drew]); (try dsimp only); omega))
end
theorem scnt_live : Cnt [97, 98] 2 := ⟨by decide, fun j hj => by
  have : j = 0 ∨ j = 1 := by omega
  rcases this with rfl | rfl <;> decide⟩
theorem rows_live : (rowsL 6 [97, 98] [0, 0]).length = 2 ∧ sumL (rowsL 6 [97, 98] [0, 0]) = 18 := by
  have e : cntN [97, 98] = 2 := (cntN_is (show Bytes [97, 98] from by unfold Bytes; decide)).uniq scnt_live
  unfold rowsL
  rw [e]
  decide
theorem live_m : (newM [97, 98] 9 6).wd = 6 ∧ feN 0 [97, 98] = [] ∧ linL (talL 6) [97, 98] [0, 0] = [(2, 18)] ∧ hidsL [97, 98] [] = [false] ∧ rowsZ (newM [97, 98] 9 6) 0 = rowsL 6 [97, 98] [0, 0] := by
  have e1 : (newM [97, 98] 9 6).wd = 6 := by decide
  have e2 : feN 0 [97, 98] = [] := by decide
  have l1 : lineC [97, 98] [97, 98] 0 = [97, 98] := by unfold lineC; rw [e2]; decide
  have l2 : lineC [97, 98] [0, 0] 0 = [0, 0] := by unfold lineC; rw [e2]; decide
  refine ⟨e1, e2, ?_, ?_, ?_⟩
  · unfold linL
    rw [e2]
    show [talL 6 (lineC [97, 98] [97, 98] 0) (lineC [97, 98] [0, 0] 0)] = _
    rw [l1, l2]
    unfold talL
    rw [rows_live.1, rows_live.2]
    rfl
  · unfold hidsL; rw [e2]; rfl
  · unfold rowsZ
    rw [if_pos ⟨by omega, by show (0 : Int) ≤ (((feN 0 [97, 98]).length : Nat) : Int); rw [e2]; decide⟩, e1]
    show rowsL 6 (lineC [97, 98] [97, 98] 0) (lineC [97, 98] [0, 0] 0) = _
    rw [l1, l2]
theorem sfield1 (x y : Int) (w : World) : (Instr.field 61 (.agg #[.int .i64 x, .int .i64 y]) 1).run Tryz.prog w = .ok (.int .i64 y) w := by kernel_rfl
set_option maxRecDepth 100000 in
set_option maxHeartbeats 3200000 in
theorem sclives_any (w : World) (hg : GlobU w) : Calls Tryz.prog 9 #[] w fun e w' => e = .returned (.bool true) ∧ AnyLater w w' := by
  have kc := fun (w : World) (C : Array Value) (n c : Nat) => Lib.run_convert_bytes_const (P := Tryz.prog) w 22 5 C n c Tryz.underlying22 Tryz.underlying5
  obtain ⟨w4, hw4⟩ : ∃ w4, w.alloc (.cells #[.int .u8 97, .int .u8 98] 5 (2, 3)) = w4 := ⟨_, rfl⟩
  have a4 : AnyLater w w4 := by rw [← hw4]; exact (AnyLater.refl w).alloc _
  have o4 : RU8 w4 (.slice (some ⟨w.heap.size, 0, none⟩) 2 2) [97, 98] := ⟨_, 2, rfl, by decide, fun _ => ⟨w.heap.size, 0, rfl, by rw [← hw4]; simp, fun j hj => by
    have hj2 : j = 0 ∨ j = 1 := by simp at hj; omega
    have hh : w4.heap[w.heap.size]? = some (.cells #[.int .u8 97, .int .u8 98] 5 (2, 3)) := by rw [← hw4]; exact heap_new rfl
    rcases hj2 with rfl | rfl <;> simp [World.cell?, hh]⟩⟩
  have HN := Lib.hid (snew_yes (.slice (some ⟨w.heap.size, 0, none⟩) 2 2) [97, 98] 9 6 w4 o4 (by unfold Bytes; decide) (by decide) (by decide) (by decide) (hg.later a4))
  have HA4 := Lib.hid a4
  have HGl := Lib.hid hg
  have hf1 := sfield1
  clear o4 a4 hg
  go_enter Tryz.func9, Tryz.ntmps9
  go_wp2_with fail
  refine HN.out.mono ?_
  rintro e w5 ⟨s, x, rfl, b5, h5⟩
  have HA5 := Lib.hid (HA4.out.trans b5)
  have HR := Lib.hid (fun w' (a : AnyLater w5 w') => srowsZ_any 0 w' (h5.later a) (HGl.out.later (HA5.out.trans a)))
  rw [live_m.2.2.2.2] at HR
  have HHt := Lib.hid (fun w' (a : AnyLater w5 w') => sheights_any w' (h5.later a).p)
  have hv : HV w4.heap.size w5 (.pointer (some ⟨x.hg, 0, none⟩)) [(2, 18)] [false] := by
    have q := h5.p.hts.v
    have e1 : linL (talL (newM [97, 98] 9 6).wd) (newM [97, 98] 9 6).b (newM [97, 98] 9 6).S = [(2, 18)] := by
      rw [live_m.1]; exact live_m.2.2.1
    have e2 : hidsL (newM [97, 98] 9 6).b (newM [97, 98] 9 6).F = [false] := live_m.2.2.2.1
    rwa [e1, e2] at q
  have HTo := Lib.hid (fun w' (a : AnyLater w5 w') => hgtotal_any _ [(2, 18)] [false] w' 2 18 (by decide) (by decide) (hv.later a))
  have HL2 : Hid ((rowsL 6 [97, 98] [0, 0]).length = 2) := Lib.hid rows_live.1
  clear h5 b5 hv
  go_wp2_with fail
  refine (HR.out w5 (AnyLater.refl _)).mono ?_
  rintro e w6 ⟨u, rfl, b6, q6⟩
  obtain ⟨A6, c6, rfl, -⟩ := q6.form
  rw [HL2.out]
  have H6 := Lib.hid b6
  clear b6 q6
  go_wp2_with fail
  refine (HHt.out w6 H6.out).mono ?_
  rintro e w7 ⟨rfl, b7⟩
  have H7 := Lib.hid (H6.out.trans b7)
  clear b7
  go_wp2_with fail
  refine (HTo.out w7 H7.out).mono ?_
  rintro e w8 ⟨rfl, b8⟩
  have H8 := Lib.hid (HA5.out.trans (H7.out.trans b8))
  clear b8
  go_wp2_with fail
  go_ret
  exact ⟨rfl, H8.out⟩
set_option maxRecDepth 100000 in
set_option maxHeartbeats 3200000 in
theorem sceneNone_any (k a n t : Int) (vb vl vf : Value) (w : World) (hb : ∃ A i c, vb = .slice A i c) (hl : ∃ A i c, vl = .slice A i c) (hf : ∃ A i c, vf = .slice A i c) (hg : GlobU w) :
    Calls Tryz.prog 6 #[.agg #[.int .i64 k, .int .i64 a, .int .i64 n, .int .i64 t, vb, vl, vf]] w fun e w' => e = .returned (.bool true) ∧ AnyLater w w' := by
  have H1 := Lib.hid (fun w' => nil_resize n w')
  have H2 := Lib.hid (fun w' => nil_edit a n w')
  have H3 := Lib.hid (fun w' => nil_style 0 0 0 w')
  have H4 := Lib.hid (fun w' => nil_fold 0 0 w')
  have H5 := Lib.hid (fun w' => nil_unfold 0 w')
  have H6 := Lib.hid nil_dress
  have H7 := Lib.hid nil_text
  have H8 := Lib.hid nil_heights
  have H9 := Lib.hid nil_runs
  have H10 := Lib.hid nil_folds
  have H11 := Lib.hid nil_width
  have H12 := Lib.hid (fun w' => nil_rows 0 w')
  have H13 := Lib.hid nil_laid
  have H14 := Lib.hid (fun w' (q : AnyLater w w') => sclives_any w' (hg.later q))
  obtain ⟨A1, n1, c1, rfl⟩ := hb
  obtain ⟨A2, n2, c2, rfl⟩ := hl
  obtain ⟨A3, n3, c3, rfl⟩ := hf
  clear hg
  go_enter Tryz.func6, Tryz.ntmps6
  go_wp2_with fail
  first | refine settle_wp (fun wS => AnyLater w wS ∧ wS.heap[w.heap.size]? = some (.cells #[.int .i64 k, .int .i64 a, .int .i64 n, .int .i64 t, .slice A1 n1 c1, .slice A2 n2 c2, .slice A3 n3 c3] 38)) ?_ ?_ | refine settle_calls (fun wS => AnyLater w wS ∧ wS.heap[w.heap.size]? = some (.cells #[.int .i64 k, .int .i64 a, .int .i64 n, .int .i64 t, .slice A1 n1 c1, .slice A2 n2 c2, .slice A3 n3 c3] 38)) ?_ ?_
  · refine ⟨?_, ?_⟩
    · repeat' (first | with_reducible assumption | with_reducible exact AnyLater.refl _ | with_reducible apply AnyLater.setCell | with_reducible apply AnyLater.later | with_reducible apply AnyLater.drewN | with_reducible apply AnyLater.drew | with_reducible apply AnyLater.alloc | ((try simp only [World.size_alloc, World.size_setCell, World.size_drew]); (try dsimp only); omega))
    · ((repeat (first | with_reducible assumption | ((with_reducible apply heap_new); (try simp only [World.size_alloc, World.size_setCell, World.size_drew, World.heap_drewN]); done) | ((with_reducible apply heap_new); (try simp only [World.size_alloc, World.size_setCell, World.size_drew, World.heap_drewN]); omega) | (with_reducible refine heap_old (by (try simp only [World.size_alloc, World.size_setCell, World.size_drew, World.heap_drewN]); omega) ?_) | (with_reducible refine heap_drew ?_) | (with_reducible refine heap_far (by omega) ?_) | (with_reducible apply heap_at))); all_goals rfl)
  rintro w1 ⟨b_w1, s0_w1⟩
  have a_w1 := b_w1
  have r0_w1 := own_row s0_w1
  have f0_w1 := own_free s0_w1
  have l0_w1 := own_lt s0_w1
  have z_w1 := b_w1.below.size
  refine (H1.out _).mono ?_
  rintro e w2 ⟨rfl, b_w2⟩
  have z_w2 := b_w2.below.size
  have a_w2 := a_w1.trans b_w2
  have s0_w2 := any_own b_w2 s0_w1
  have r0_w2 := own_row s0_w2
  have f0_w2 := own_free s0_w2
  have l0_w2 := own_lt s0_w2
  (try clear r0_w1); (try clear f0_w1)
  go_wp2_with fail
  refine (H2.out _).mono ?_
  rintro e w3 ⟨rfl, b_w3⟩
  have z_w3 := b_w3.below.size
  have a_w3 := a_w2.trans b_w3
  have s0_w3 := any_own b_w3 s0_w2
  have r0_w3 := own_row s0_w3
  have f0_w3 := own_free s0_w3
  have l0_w3 := own_lt s0_w3
  (try clear r0_w2); (try clear f0_w2)
  go_wp2_with fail
  refine (H3.out _).mono ?_
  rintro e w4 ⟨rfl, b_w4⟩
  have z_w4 := b_w4.below.size
  have a_w4 := a_w3.trans b_w4
  go_wp2_with fail
  refine (H4.out _).mono ?_
  rintro e w5 ⟨rfl, b_w5⟩
  have z_w5 := b_w5.below.size
  have a_w5 := a_w4.trans b_w5
  go_wp2_with fail
  refine (H5.out _).mono ?_
  rintro e w6 ⟨rfl, b_w6⟩
  have z_w6 := b_w6.below.size
  have a_w6 := a_w5.trans b_w6
  go_wp2_with fail
  refine (H6.out _).mono ?_
  rintro e w7 ⟨rfl, b_w7⟩
  have z_w7 := b_w7.below.size
  have a_w7 := a_w6.trans b_w7
  go_wp2_with fail
  refine (H7.out _).mono ?_
  rintro e w8 ⟨rfl, b_w8⟩
  have z_w8 := b_w8.below.size
  have a_w8 := a_w7.trans b_w8
  go_wp2_with fail
  refine (H8.out _).mono ?_
  rintro e w9 ⟨rfl, b_w9⟩
  have z_w9 := b_w9.below.size
  have a_w9 := a_w8.trans b_w9
  go_wp2_with fail
  refine (H9.out _).mono ?_
  rintro e w10 ⟨rfl, b_w10⟩
  have z_w10 := b_w10.below.size
  have a_w10 := a_w9.trans b_w10
  go_wp2_with fail
  refine (H10.out _).mono ?_
  rintro e w11 ⟨rfl, b_w11⟩
  have z_w11 := b_w11.below.size
  have a_w11 := a_w10.trans b_w11
  go_wp2_with fail
  refine (H11.out _).mono ?_
  rintro e w12 ⟨rfl, b_w12⟩
  have z_w12 := b_w12.below.size
  have a_w12 := a_w11.trans b_w12
  go_wp2_with fail
  refine (H12.out _).mono ?_
  rintro e w13 ⟨rfl, b_w13⟩
  have z_w13 := b_w13.below.size
  have a_w13 := a_w12.trans b_w13
  go_wp2_with fail
  refine (H13.out _).mono ?_
  rintro e w14 ⟨rfl, b_w14⟩
  have z_w14 := b_w14.below.size
  have a_w14 := a_w13.trans b_w14
  go_wp2_with fail
  refine (H14.out _ a_w14).mono ?_
  rintro e w15 ⟨rfl, b_w15⟩
  have z_w15 := b_w15.below.size
  have a_w15 := a_w14.trans b_w15
  go_wp2_with fail
  go_ret
  exact ⟨rfl, a_w15⟩
end Go.Proofs.YtamhnffokoejjaaGreatDoor
