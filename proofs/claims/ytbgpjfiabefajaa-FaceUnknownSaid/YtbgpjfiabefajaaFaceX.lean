/- face: Glyph of the program, by contract; all that the program's functions tell. -/
import Derived.Test.YtbgpjfiabefajaaFaceS
namespace Go.Proofs.Ytbgpjfiabefajaa
set_option linter.unusedSimpArgs false
set_option linter.unusedVariables false
set_option linter.unusedSectionVars false
open Go.RowKit

set_option maxRecDepth 100000 in
set_option maxHeartbeats 3200000 in
theorem glyph_reg (r : Int) (w : World) (hb : -2147483648 ≤ r ∧ r ≤ 2147483647) : Shows 43 #[.int .i64 0, .int .i32 r] w (IsP (FaceP 0 r)) := by
  have HRg := Lib.hid (fun w => regular_any r w hb)
  have HP := Lib.hid (fun (b : GM) => @faceP_reg r b)
  clear hb
  go_enter Try.func43, Try.ntmps43
  go_wp2_with fail
  first | refine settle_wp (fun wS => AnyLater w wS ∧ wS.heap[w.heap.size]? = some (.cells #[.int .i64 0, .int .i64 0, .slice none 0 0] 51)) ?_ ?_ | refine settle_calls (fun wS => AnyLater w wS ∧ wS.heap[w.heap.size]? = some (.cells #[.int .i64 0, .int .i64 0, .slice none 0 0] 51)) ?_ ?_
  · refine ⟨?_, ?_⟩
    · repeat' (first | with_reducible assumption | with_reducible exact AnyLater.refl _ | with_reducible apply AnyLater.setCell | with_reducible apply AnyLater.later | with_reducible apply AnyLater.drewN | with_reducible apply AnyLater.drew | with_reducible apply AnyLater.alloc | ((try simp only [World.size_alloc, World.size_setCell, World.size_drew]); (try dsimp only); omega))
    · ((repeat (first | with_reducible assumption | ((with_reducible apply heap_new); (try simp only [World.size_alloc, World.size_setCell, World.size_drew, World.heap_drewN]); done) | ((with_reducible apply heap_new); (try simp only [World.size_alloc, World.size_setCell, World.size_drew, World.heap_drewN]); omega) | (with_reducible refine heap_old (by (try simp only [World.size_alloc, World.size_setCell, World.size_drew, World.heap_drewN]); omega) ?_) | (with_reducible refine heap_drew ?_) | (with_reducible refine heap_far (by omega) ?_) | (with_reducible apply heap_at))); all_goals rfl)
  rintro w1 ⟨b_w1, s0_w1⟩
  have a_w1 := b_w1
  have r0_w1 := own_row s0_w1
  have f0_w1 := own_free s0_w1
  have l0_w1 := own_lt s0_w1
  have z_w1 := b_w1.below.size
  refine (HRg.out _).mono ?_
  rintro e w4 ⟨u4, rfl, b4, b, hb, hp4⟩
  have HBG := Lib.hid hb
  have HRP := Lib.hid (HP.out _ hp4)
  obtain ⟨A4, n4, c4, rfl, -⟩ := hb.form
  have s0_w4 := any_own b4 s0_w1
  have HS4 := Lib.hid s0_w4
  have HA4 := Lib.hid (a_w1.trans b4)
  have r0_w4 := own_row s0_w4
  have f0_w4 := own_free s0_w4
  clear b4 hb hp4 s0_w4 s0_w1 r0_w1 f0_w1 l0_w1 a_w1 b_w1 z_w1
  generalize hbw : b.w = bw at *
  generalize hbh : b.h = bh at *
  have HE := Lib.hid (And.intro hbw hbh)
  clear hbw hbh
  go_wp2_with fail
  refine bodyPost_ret (v := .agg #[.int .i64 bw, .int .i64 bh, .slice A4 n4 c4]) (by simp [results, Try.results43, go_sem, *]) rfl ?_
  refine ⟨_, rfl, ?_, b, HBG.out.keeps (S := fun q => q = w.heap.size) ?_ (fun q hq => by subst hq; exact box_no32 HS4.out), HRP.out⟩
  · exact ((HA4.out.setCell (by simp) _).setCell (by simp) _).setCell (by simp) _
  · refine Keeps.setCell (Keeps.setCell (Keeps.setCell (Keeps.refl _ _) ?_ _) ?_ _) ?_ _ <;> rfl
set_option maxRecDepth 100000 in
set_option maxHeartbeats 3200000 in
theorem glyph_bold (r : Int) (w : World) (hb : -2147483648 ≤ r ∧ r ≤ 2147483647) : Shows 43 #[.int .i64 1, .int .i32 r] w (IsP (FaceP 1 r)) := by
  have HRg := Lib.hid (fun w => regular_any r w hb)
  have HBo := Lib.hid (fun (g : GM) (v : Value) (w : World) (h : IsG g v w) (hok : g.Ok) (hl : g.rows.length ≤ 40) => gsays.bold h hok hl)
  have HP := Lib.hid (fun (g b : GM) => @faceP_bold r g b)
  clear hb
  go_enter Try.func43, Try.ntmps43
  go_wp2_with fail
  first | refine settle_wp (fun wS => AnyLater w wS ∧ wS.heap[w.heap.size]? = some (.cells #[.int .i64 0, .int .i64 0, .slice none 0 0] 51)) ?_ ?_ | refine settle_calls (fun wS => AnyLater w wS ∧ wS.heap[w.heap.size]? = some (.cells #[.int .i64 0, .int .i64 0, .slice none 0 0] 51)) ?_ ?_
  · refine ⟨?_, ?_⟩
    · repeat' (first | with_reducible assumption | with_reducible exact AnyLater.refl _ | with_reducible apply AnyLater.setCell | with_reducible apply AnyLater.later | with_reducible apply AnyLater.drewN | with_reducible apply AnyLater.drew | with_reducible apply AnyLater.alloc | ((try simp only [World.size_alloc, World.size_setCell, World.size_drew]); (try dsimp only); omega))
    · ((repeat (first | with_reducible assumption | ((with_reducible apply heap_new); (try simp only [World.size_alloc, World.size_setCell, World.size_drew, World.heap_drewN]); done) | ((with_reducible apply heap_new); (try simp only [World.size_alloc, World.size_setCell, World.size_drew, World.heap_drewN]); omega) | (with_reducible refine heap_old (by (try simp only [World.size_alloc, World.size_setCell, World.size_drew, World.heap_drewN]); omega) ?_) | (with_reducible refine heap_drew ?_) | (with_reducible refine heap_far (by omega) ?_) | (with_reducible apply heap_at))); all_goals rfl)
  rintro w1 ⟨b_w1, s0_w1⟩
  have a_w1 := b_w1
  have r0_w1 := own_row s0_w1
  have f0_w1 := own_free s0_w1
  have l0_w1 := own_lt s0_w1
  have z_w1 := b_w1.below.size
  refine (HRg.out _).mono ?_
  rintro e w3 ⟨u3, rfl, b3, g, ho, hp⟩
  have HOP := Lib.hid hp
  obtain ⟨A3, n3, c3, rfl, -⟩ := ho.form
  have HS3 := Lib.hid (any_own b3 s0_w1)
  have HA3 := Lib.hid (a_w1.trans b3)
  have HW := Lib.hid (HBo.out g _ w3 ho hp.ok (reg_rows hp))
  generalize g.w = ow at *
  generalize g.h = oh at *
  clear b3 ho hp s0_w1 r0_w1 f0_w1 l0_w1 a_w1 b_w1 z_w1
  go_wp2_with fail
  refine HW.out.mono ?_
  rintro e w4 ⟨u4, rfl, b4, b, hb, hp4⟩
  have HBG := Lib.hid hb
  have HRP := Lib.hid (HP.out _ _ HOP.out hp4)
  obtain ⟨A4, n4, c4, rfl, -⟩ := hb.form
  have s0_w4 := any_own b4 HS3.out
  have HS4 := Lib.hid s0_w4
  have HA4 := Lib.hid (HA3.out.trans b4)
  have r0_w4 := own_row s0_w4
  have f0_w4 := own_free s0_w4
  clear b4 hb hp4 s0_w4
  generalize hbw : b.w = bw at *
  generalize hbh : b.h = bh at *
  have HE := Lib.hid (And.intro hbw hbh)
  clear hbw hbh
  go_wp2_with fail
  refine bodyPost_ret (v := .agg #[.int .i64 bw, .int .i64 bh, .slice A4 n4 c4]) (by simp [results, Try.results43, go_sem, *]) rfl ?_
  refine ⟨_, rfl, ?_, b, HBG.out.keeps (S := fun q => q = w.heap.size) ?_ (fun q hq => by subst hq; exact box_no32 HS4.out), HRP.out⟩
  · exact ((HA4.out.setCell (by simp) _).setCell (by simp) _).setCell (by simp) _
  · refine Keeps.setCell (Keeps.setCell (Keeps.setCell (Keeps.refl _ _) ?_ _) ?_ _) ?_ _ <;> rfl
set_option maxRecDepth 100000 in
set_option maxHeartbeats 3200000 in
theorem glyph_large (r : Int) (w : World) (hb : -2147483648 ≤ r ∧ r ≤ 2147483647) : Shows 43 #[.int .i64 2, .int .i32 r] w (IsP (FaceP 2 r)) := by
  have HRg := Lib.hid (fun w => regular_any r w hb)
  have HBo := Lib.hid (fun (g : GM) (v : Value) (w : World) (h : IsG g v w) (hok : g.Ok) (hl : g.rows.length ≤ 40) => gsays.large h hok hl)
  have HP := Lib.hid (fun (g b : GM) => @faceP_large r g b)
  clear hb
  go_enter Try.func43, Try.ntmps43
  go_wp2_with fail
  first | refine settle_wp (fun wS => AnyLater w wS ∧ wS.heap[w.heap.size]? = some (.cells #[.int .i64 0, .int .i64 0, .slice none 0 0] 51)) ?_ ?_ | refine settle_calls (fun wS => AnyLater w wS ∧ wS.heap[w.heap.size]? = some (.cells #[.int .i64 0, .int .i64 0, .slice none 0 0] 51)) ?_ ?_
  · refine ⟨?_, ?_⟩
    · repeat' (first | with_reducible assumption | with_reducible exact AnyLater.refl _ | with_reducible apply AnyLater.setCell | with_reducible apply AnyLater.later | with_reducible apply AnyLater.drewN | with_reducible apply AnyLater.drew | with_reducible apply AnyLater.alloc | ((try simp only [World.size_alloc, World.size_setCell, World.size_drew]); (try dsimp only); omega))
    · ((repeat (first | with_reducible assumption | ((with_reducible apply heap_new); (try simp only [World.size_alloc, World.size_setCell, World.size_drew, World.heap_drewN]); done) | ((with_reducible apply heap_new); (try simp only [World.size_alloc, World.size_setCell, World.size_drew, World.heap_drewN]); omega) | (with_reducible refine heap_old (by (try simp only [World.size_alloc, World.size_setCell, World.size_drew, World.heap_drewN]); omega) ?_) | (with_reducible refine heap_drew ?_) | (with_reducible refine heap_far (by omega) ?_) | (with_reducible apply heap_at))); all_goals rfl)
  rintro w1 ⟨b_w1, s0_w1⟩
  have a_w1 := b_w1
  have r0_w1 := own_row s0_w1
  have f0_w1 := own_free s0_w1
  have l0_w1 := own_lt s0_w1
  have z_w1 := b_w1.below.size
  refine (HRg.out _).mono ?_
  rintro e w3 ⟨u3, rfl, b3, g, ho, hp⟩
  have HOP := Lib.hid hp
  obtain ⟨A3, n3, c3, rfl, -⟩ := ho.form
  have HS3 := Lib.hid (any_own b3 s0_w1)
  have HA3 := Lib.hid (a_w1.trans b3)
  have HW := Lib.hid (HBo.out g _ w3 ho hp.ok (reg_rows hp))
  generalize g.w = ow at *
  generalize g.h = oh at *
  clear b3 ho hp s0_w1 r0_w1 f0_w1 l0_w1 a_w1 b_w1 z_w1
  go_wp2_with fail
  refine HW.out.mono ?_
  rintro e w4 ⟨u4, rfl, b4, b, hb, hp4⟩
  have HBG := Lib.hid hb
  have HRP := Lib.hid (HP.out _ _ HOP.out hp4)
  obtain ⟨A4, n4, c4, rfl, -⟩ := hb.form
  have s0_w4 := any_own b4 HS3.out
  have HS4 := Lib.hid s0_w4
  have HA4 := Lib.hid (HA3.out.trans b4)
  have r0_w4 := own_row s0_w4
  have f0_w4 := own_free s0_w4
  clear b4 hb hp4 s0_w4
  generalize hbw : b.w = bw at *
  generalize hbh : b.h = bh at *
  have HE := Lib.hid (And.intro hbw hbh)
  clear hbw hbh
  go_wp2_with fail
  refine bodyPost_ret (v := .agg #[.int .i64 bw, .int .i64 bh, .slice A4 n4 c4]) (by simp [results, Try.results43, go_sem, *]) rfl ?_
  refine ⟨_, rfl, ?_, b, HBG.out.keeps (S := fun q => q = w.heap.size) ?_ (fun q hq => by subst hq; exact box_no32 HS4.out), HRP.out⟩
  · exact ((HA4.out.setCell (by simp) _).setCell (by simp) _).setCell (by simp) _
  · refine Keeps.setCell (Keeps.setCell (Keeps.setCell (Keeps.refl _ _) ?_ _) ?_ _) ?_ _ <;> rfl
set_option maxRecDepth 100000 in
set_option maxHeartbeats 3200000 in
theorem glyph_none (f r : Int) (w : World) (hf : ¬ (0 ≤ f ∧ f ≤ 2)) : Shows 43 #[.int .i64 f, .int .i32 r] w (IsP (FaceP f r)) := by
  have HZ := Lib.hid (faceP_none (r := r) hf)
  have d0 : (f == 0) = false := by simp; omega
  have d1 : (f == 1) = false := by simp; omega
  have d2 : (f == 2) = false := by simp; omega
  clear hf
  go_enter Try.func43, Try.ntmps43
  go_wp2_with fail
  refine bodyPost_ret (v := .agg #[.int .i64 0, .int .i64 0, .slice none 0 0]) (by simp [results, Try.results43, go_sem, *]) rfl ?_
  refine ⟨_, rfl, ?_, _, zeroG_is _, HZ.out⟩
  repeat' (first | with_reducible assumption | with_reducible exact AnyLater.refl _ | with_reducible apply AnyLater.setCell | with_reducible apply AnyLater.later | with_reducible apply AnyLater.drewN | with_reducible apply AnyLater.drew | with_reducible apply AnyLater.alloc | ((try simp only [World.size_alloc, World.size_setCell, World.size_drew]); (try dsimp only); omega))
theorem fcGlyph_any (f r : Int) (w : World) (hb : -2147483648 ≤ r ∧ r ≤ 2147483647) : Shows 43 #[.int .i64 f, .int .i32 r] w (IsP (FaceP f r)) := by
  by_cases q : 0 ≤ f ∧ f ≤ 2
  · have hff : f = 0 ∨ f = 1 ∨ f = 2 := by omega
    rcases hff with rfl | rfl | rfl
    · exact glyph_reg r w hb
    · exact glyph_bold r w hb
    · exact glyph_large r w hb
  · exact glyph_none f r w q
theorem tsays : TSays where
  cols r hb := fcCols_any r _ hb
  known r c hc _ := fcKnown_any r _ c hc
  adv f r n hn _ _ := fcAdv_any f r _ n hn
  met f _ := fcMet_any f _
  glyph f r _ hb := fcGlyph_any f r _ hb
end Go.Proofs.Ytbgpjfiabefajaa
