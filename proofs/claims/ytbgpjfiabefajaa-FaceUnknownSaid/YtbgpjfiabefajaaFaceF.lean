/- face: FaceGlyphs, walked. -/
import Derived.Test.YtbgpjfiabefajaaFaceE
import Derived.Test.YtbgpjfiabefajaaGlyB
namespace Go.Proofs.Ytbgpjfiabefajaa
set_option linter.unusedSimpArgs false
set_option linter.unusedVariables false
set_option linter.unusedSectionVars false
open Go.RowKit

theorem wideF_in {f : Int} (hf : 0 ≤ f ∧ f ≤ 2) : 6 ≤ wideF f ∧ wideF f ≤ 12 := by unfold wideF; split <;> omega
theorem highF_in {f : Int} (hf : 0 ≤ f ∧ f ≤ 2) : 8 ≤ highF f ∧ highF f ≤ 16 := by unfold highF; split <;> omega
theorem upF_in {f : Int} : 7 ≤ upF f ∧ upF f ≤ 14 := by unfold upF; split <;> omega
theorem downF_in {f : Int} : 2 ≤ downF f ∧ downF f ≤ 3 := by unfold downF; split <;> omega
set_option maxRecDepth 100000 in
set_option maxHeartbeats 3200000 in
theorem faceGlyphs_none (T : TSays) (W0 : World) (f r : Int) (hf : I64 f) (hb : -2147483648 ≤ r ∧ r ≤ 2147483647) (hno : ¬ (0 ≤ f ∧ f ≤ 2)) : Calls Try.prog 11 #[.int .i64 f, .int .i32 r] W0 fun e w' => e = .returned (.bool true) ∧ AnyLater W0 w' := by
  have HT := Lib.hid T
  have HG := Lib.hid (T.glyph (w := W0) f r hf hb)
  have HM : Hid (∀ w, Calls Try.prog 44 #[.int .i64 f] w fun e w' => e = .returned (.tuple #[.int .i64 0, .int .i64 0, .bool false]) ∧ AnyLater w w') := Lib.hid (fun w => by
    have := T.met (w := w) f hf
    rwa [if_neg hno] at this)
  have HAd := Lib.hid (fun (w : World) => T.adv (w := w) f r 0 (if_neg hno) hf hb)
  have HLv := Lib.hid (fun w => flives_any T w)
  obtain ⟨f1, f2⟩ := hf
  clear T
  go_enter Try.func11, Try.ntmps11
  go_wp2_with fail
  refine HG.out.mono ?_
  rintro e w1 ⟨u, rfl, b1, g, hg, hp⟩
  obtain ⟨n1, n2, n3⟩ := hp.no hno
  obtain ⟨A, n, cap, rfl, hn⟩ := hg.form
  rw [n3] at hn
  obtain rfl : 0 = n := hn
  rw [n1, n2]
  have HB1 := Lib.hid b1
  have a_w1 := b1
  clear hg hp n1 n2 n3 b1
  go_wp2_with fail
  first | refine settle_wp (fun wS => AnyLater w1 wS ∧ wS.heap[w1.heap.size]? = some (.cells #[.int .i64 0, .int .i64 0, .slice A 0 cap] 51)) ?_ ?_ | refine settle_calls (fun wS => AnyLater w1 wS ∧ wS.heap[w1.heap.size]? = some (.cells #[.int .i64 0, .int .i64 0, .slice A 0 cap] 51)) ?_ ?_
  · refine ⟨?_, ?_⟩
    · repeat' (first | with_reducible assumption | with_reducible exact AnyLater.refl _ | with_reducible apply AnyLater.setCell | with_reducible apply AnyLater.later | with_reducible apply AnyLater.drewN | with_reducible apply AnyLater.drew | with_reducible apply AnyLater.alloc | ((try simp only [World.size_alloc, World.size_setCell, World.size_drew]); (try dsimp only); omega))
    · ((repeat (first | with_reducible assumption | ((with_reducible apply heap_new); (try simp only [World.size_alloc, World.size_setCell, World.size_drew, World.heap_drewN]); done) | ((with_reducible apply heap_new); (try simp only [World.size_alloc, World.size_setCell, World.size_drew, World.heap_drewN]); omega) | (with_reducible refine heap_old (by (try simp only [World.size_alloc, World.size_setCell, World.size_drew, World.heap_drewN]); omega) ?_) | (with_reducible refine heap_drew ?_) | (with_reducible refine heap_far (by omega) ?_) | (with_reducible apply heap_at))); all_goals rfl)
  rintro w2 ⟨b_w2, s0_w2⟩
  have a_w2 := a_w1.trans b_w2
  have r0_w2 := own_row s0_w2
  have f0_w2 := own_free s0_w2
  have l0_w2 := own_lt s0_w2
  have z_w2 := b_w2.below.size
  refine (HM.out w2).mono ?_
  rintro e w3 ⟨rfl, b3⟩
  have s3 := any_own b3 s0_w2
  have r3 := own_row s3
  have f3 := own_free s3
  have l3 := own_lt s3
  have HB3 := Lib.hid (a_w2.trans b3)
  clear b3 r0_w2 f0_w2 l0_w2
  have q : f < 0 ∨ 2 < f := by omega
  rcases q with q | q
  all_goals
    go_wp2_with fail
    refine (HAd.out _).mono ?_
    rintro e w4 ⟨rfl, b4⟩
    have HB4 := Lib.hid (HB3.out.trans b4)
    clear b4
    go_wp2_with fail
    refine (HLv.out _).mono ?_
    rintro e w5 ⟨rfl, b5⟩
    have HB5 := Lib.hid (HB4.out.trans b5)
    clear b5
    go_wp2_with fail
    go_ret
    exact ⟨rfl, HB5.out⟩
set_option maxRecDepth 100000 in
set_option maxHeartbeats 6400000 in
theorem faceGlyphs_some (T : TSays) (W0 : World) (f r : Int) (hf : 0 ≤ f ∧ f ≤ 2) (hb : -2147483648 ≤ r ∧ r ≤ 2147483647) : Calls Try.prog 11 #[.int .i64 f, .int .i32 r] W0 fun e w' => e = .returned (.bool true) ∧ AnyLater W0 w' := by
  have hf64 : I64 f := ⟨by omega, by omega⟩
  have HG := Lib.hid (T.glyph (w := W0) f r hf64 hb)
  have HM : Hid (∀ w, Calls Try.prog 44 #[.int .i64 f] w fun e w' => e = .returned (.tuple #[.int .i64 (upF f), .int .i64 (downF f), .bool true]) ∧ AnyLater w w') := Lib.hid (fun w => by
    have := T.met (w := w) f hf64
    rwa [if_pos hf] at this)
  have HAd := Lib.hid (fun (w : World) => T.adv (w := w) f r (wideF f) (if_pos hf) hf64 hb)
  have HLv := Lib.hid (fun w => flives_any T w)
  have HSz := Lib.hid (fun w => sizes_any f w hf)
  have HF := Lib.hid hf
  have HR := Lib.hid hb
  have ub := upF_in (f := f)
  have db := downF_in (f := f)
  have wb := wideF_in hf
  have hb' := highF_in hf
  obtain ⟨f1, f2⟩ := hf
  clear T
  go_enter Try.func11, Try.ntmps11
  go_wp2_with fail
  refine HG.out.mono ?_
  rintro e w1 ⟨u, rfl, b1, gm, hg, hp⟩
  obtain ⟨e1, e2, hgd, hbits⟩ := hp.yes f1 f2
  obtain ⟨i1, i2, i3, i4, i5, _⟩ := goodG_in hgd
  have HIs := Lib.hid (fun w' (ha : AnyLater w1 w') => is_any gm u w' gm.w gm.h true (by rw [hgd, decide_eq_true ⟨rfl, rfl⟩]; rfl) (hg.later ha) hp.ok (by omega))
  have HBit := Lib.hid (fun (x y : Nat) w' (ha : AnyLater w1 w') (hx : x ≤ 100) (hy : y ≤ 100) => refBit_any gm u x y w' _ rfl (hg.later ha) hp.ok i2 (by omega) ⟨by omega, by omega⟩ ⟨by omega, by omega⟩)
  have HDot : Hid (∀ (x y : Nat) w', x ≤ 100 → y ≤ 100 → Calls Try.prog 50 #[.int .i64 f, .int .i32 r, .int .i64 (x : Int), .int .i64 (y : Int)] w' fun e w'' => e = .returned (.bool (hasB gm x y)) ∧ AnyLater w' w'') := Lib.hid (fun x y w' hx hy => dot_any f r x y w' _ (hbits x y).symm HF.out HR.out ⟨by omega, by omega⟩ ⟨by omega, by omega⟩)
  rw [← e1] at HAd HSz wb
  rw [← e2] at HSz hb'
  obtain ⟨A, n, cap, rfl, hn⟩ := hg.form
  obtain ⟨up, hup⟩ : ∃ z, upF f = z := ⟨_, rfl⟩
  obtain ⟨dn, hdn⟩ : ∃ z, downF f = z := ⟨_, rfl⟩
  rw [hup] at HM HSz ub
  rw [hdn] at HM HSz db
  obtain ⟨Wn, hW⟩ : ∃ z : Nat, (z : Int) = gm.w := ⟨gm.w.toNat, by omega⟩
  obtain ⟨Hn, hH⟩ : ∃ z : Nat, (z : Int) = gm.h := ⟨gm.h.toNat, by omega⟩
  rw [← hW] at HIs HBit HAd HSz wb ⊢
  rw [← hH] at HIs HBit HSz hb' ⊢
  have HB1 := Lib.hid b1
  have a_w1 := b1
  clear hg hp e1 e2 hgd hbits i1 i2 i3 i4 i5 hup hdn hn hW hH b1
  go_wp2_with fail
  first | refine settle_wp (fun wS => AnyLater w1 wS ∧ wS.heap[w1.heap.size]? = some (.cells #[.int .i64 (Wn : Int), .int .i64 (Hn : Int), .slice A n cap] 51)) ?_ ?_ | refine settle_calls (fun wS => AnyLater w1 wS ∧ wS.heap[w1.heap.size]? = some (.cells #[.int .i64 (Wn : Int), .int .i64 (Hn : Int), .slice A n cap] 51)) ?_ ?_
  · refine ⟨?_, ?_⟩
    · repeat' (first | with_reducible assumption | with_reducible exact AnyLater.refl _ | with_reducible apply AnyLater.setCell | with_reducible apply AnyLater.later | with_reducible apply AnyLater.drewN | with_reducible apply AnyLater.drew | with_reducible apply AnyLater.alloc | ((try simp only [World.size_alloc, World.size_setCell, World.size_drew]); (try dsimp only); omega))
    · ((repeat (first | with_reducible assumption | ((with_reducible apply heap_new); (try simp only [World.size_alloc, World.size_setCell, World.size_drew, World.heap_drewN]); done) | ((with_reducible apply heap_new); (try simp only [World.size_alloc, World.size_setCell, World.size_drew, World.heap_drewN]); omega) | (with_reducible refine heap_old (by (try simp only [World.size_alloc, World.size_setCell, World.size_drew, World.heap_drewN]); omega) ?_) | (with_reducible refine heap_drew ?_) | (with_reducible refine heap_far (by omega) ?_) | (with_reducible apply heap_at))); all_goals rfl)
  rintro w2 ⟨b_w2, s0_w2⟩
  have a_w2 := a_w1.trans b_w2
  have r0_w2 := own_row s0_w2
  have f0_w2 := own_free s0_w2
  have l0_w2 := own_lt s0_w2
  have z_w2 := b_w2.below.size
  refine (HM.out w2).mono ?_
  rintro e w3 ⟨rfl, b3⟩
  have s0_w3 := any_own b3 s0_w2
  have r0_w3 := own_row s0_w3
  have f0_w3 := own_free s0_w3
  have l0_w3 := own_lt s0_w3
  have a_w3 := a_w2.trans b3
  have H13 := Lib.hid (b_w2.trans b3)
  clear b3 r0_w2 f0_w2 l0_w2 s0_w2 b_w2 a_w2
  go_wp2_with fail
  apply wp_region_free (31) [⟨2, 63, .int .i64 (Wn : Int), false, fun v _ => v = .int .i64 (Wn : Int)⟩, ⟨4, 65, .int .i64 (Hn : Int), false, fun v _ => v = .int .i64 (Hn : Int)⟩, ⟨5, 66, .bool true, false, fun v _ => v = .bool true⟩, ⟨10, 71, .int .i64 (Wn : Int), false, fun v _ => v = .int .i64 (Wn : Int)⟩, ⟨12, 73, .int .i64 (Wn : Int), false, fun v _ => v = .int .i64 (Wn : Int)⟩, ⟨18, 79, .int .i64 up, false, fun v _ => v = .int .i64 up⟩, ⟨24, 85, .int .i64 dn, false, fun v _ => v = .int .i64 dn⟩] [] rfl (by kernel_rfl) (by kernel_rfl) (by kernel_rfl) (by simp) (by kernel_rfl)
  case hstab =>
    intro c hc
    simp only [List.mem_cons, List.not_mem_nil, or_false] at hc
    rcases hc with rfl | rfl | rfl | rfl | rfl | rfl | rfl
    · intro v x y hxy hv; exact hv
    · intro v x y hxy hv; exact hv
    · intro v x y hxy hv; exact hv
    · intro v x y hxy hv; exact hv
    · intro v x y hxy hv; exact hv
    · intro v x y hxy hv; exact hv
    · intro v x y hxy hv; exact hv
  case hfix =>
    intro c hc
    simp only [List.mem_cons, List.not_mem_nil, or_false] at hc
    rcases hc with rfl | rfl | rfl | rfl | rfl | rfl | rfl
    · exact .inr fun u x h => h
    · exact .inr fun u x h => h
    · exact .inr fun u x h => h
    · exact .inr fun u x h => h
    · exact .inr fun u x h => h
    · exact .inr fun u x h => h
    · exact .inr fun u x h => h
  case hlex =>
    intro U hU
    have q0 := own_row (any_own hU s0_w3)
    simp only [List.map_cons, List.map_nil, CA.act, actFrom, actOp, List.lookup, Nat.reduceBEq, Nat.reduceLeDiff, Nat.reduceAdd, if_false, if_true]
    repeat (go_big_quiet_step (first | fail))
    exact wpQuiet_nil rfl
  case hstep =>
    intro j hj o ho
    have hj2 : j = 0 ∨ j = 1 ∨ j = 2 ∨ j = 3 ∨ j = 4 ∨ j = 5 ∨ j = 6 := by simp at hj; omega
    rcases hj2 with rfl | rfl | rfl | rfl | rfl | rfl | rfl
    · cases ho
      refine ⟨rfl, fun g x hx hp => ?_⟩
      clear hp
      simp only [fillAll, Act.put, List.setIfInBounds_toArray, List.set_cons_zero, List.set_cons_succ]
      refine chain_go ?_ (free_fix (same_later (HSz.out x).1))
      simp [go_sem, execOp]
    · cases ho
      refine ⟨rfl, fun g x hx hp => ?_⟩
      clear hp
      simp only [fillAll, Act.put, List.setIfInBounds_toArray, List.set_cons_zero, List.set_cons_succ]
      refine chain_go ?_ (free_fix (same_later (HSz.out x).2.1))
      simp [go_sem, execOp]
    · cases ho
      refine ⟨rfl, fun g x hx hp => ?_⟩
      clear hp
      simp only [fillAll, Act.put, List.setIfInBounds_toArray, List.set_cons_zero, List.set_cons_succ]
      refine chain_go ?_ (free_fix (HIs.out x (H13.out.trans hx)))
      simp [go_sem, execOp]
    · cases ho
      refine ⟨rfl, fun g x hx hp => ?_⟩
      clear hp
      simp only [fillAll, Act.put, List.setIfInBounds_toArray, List.set_cons_zero, List.set_cons_succ]
      refine chain_go ?_ (free_fix (HAd.out x))
      simp [go_sem, execOp]
    · cases ho
      refine ⟨rfl, fun g x hx hp => ?_⟩
      clear hp
      simp only [fillAll, Act.put, List.setIfInBounds_toArray, List.set_cons_zero, List.set_cons_succ]
      refine chain_go ?_ (free_fix (same_later (HSz.out x).1))
      simp [go_sem, execOp]
    · cases ho
      refine ⟨rfl, fun g x hx hp => ?_⟩
      clear hp
      simp only [fillAll, Act.put, List.setIfInBounds_toArray, List.set_cons_zero, List.set_cons_succ]
      refine chain_go ?_ (free_fix (same_later (HSz.out x).2.2.1))
      simp [go_sem, execOp]
    · cases ho
      refine ⟨rfl, fun g x hx hp => ?_⟩
      clear hp
      simp only [fillAll, Act.put, List.setIfInBounds_toArray, List.set_cons_zero, List.set_cons_succ]
      refine chain_go ?_ (free_fix (same_later (HSz.out x).2.2.2))
      simp [go_sem, execOp]
  case htail =>
    intro g u hst hne
    have b_w4 : AnyLater w3 (later u) := ⟨u, rfl⟩
    generalize later u = w4 at *
    clear u
    clear hst hne
    simp only [fillAll, Act.put, List.setIfInBounds_toArray, List.set_cons_zero, List.set_cons_succ, List.drop_succ_cons, List.drop_zero, List.drop_nil]
    have z_w4 := b_w4.below.size
    have a_w4 := a_w3.trans b_w4
    have s0_w4 := any_own b_w4 s0_w3
    have r0_w4 := own_row s0_w4
    have f0_w4 := own_free s0_w4
    have l0_w4 := own_lt s0_w4
    (try clear r0_w3); (try clear f0_w3)
    have H14 := Lib.hid (H13.out.trans b_w4)
    have s4 := Lib.hid s0_w4
    go_wp2_with fail
    go_loopg [9] Hn (fun kk yv wr => AnyLater w4 wr ∧ ∃ y : Nat, kk = Hn - y ∧ y ≤ Hn ∧ yv = .int .i64 y)
    case atStart => exact ⟨AnyLater.refl _, 0, by omega, by omega, rfl⟩
    case round =>
      obtain ⟨a_wr, y, hk, hy, rfl⟩ := hrel
      have HA := Lib.hid a_wr
      have s_b := any_own a_wr s4.out
      have r_b := own_row s_b
      have f_b := own_free s_b
      have l_b := own_lt s_b
      by_cases hyl : y < Hn
      · clear a_wr
        go_wp2_with fail
        go_loopg [10] Wn (fun kk xv wr => AnyLater w4 wr ∧ ∃ x : Nat, kk = Wn - x ∧ x ≤ Wn ∧ xv = .int .i64 x)
        case atStart => exact ⟨HA.out, 0, by omega, by omega, rfl⟩
        case round =>
          obtain ⟨a_wr, x, hk2, hx, rfl⟩ := hrel
          have HA2 := Lib.hid a_wr
          have s_c := any_own a_wr s4.out
          have r_c := own_row s_c
          have f_c := own_free s_c
          have l_c := own_lt s_c
          by_cases hxl : x < Wn
          · have HBx := Lib.hid (HBit.out x y wr (H14.out.trans a_wr) (by omega) (by omega))
            have HDx := Lib.hid (fun w' => HDot.out x y w' (by omega) (by omega))
            generalize hasB gm x y = bt at *
            clear a_wr
            go_wp2_with fail
            refine HBx.out.mono ?_
            rintro e w5 ⟨rfl, b5⟩
            have HA5 := Lib.hid (HA2.out.trans b5)
            clear b5
            go_wp2_with fail
            refine (HDx.out _).mono ?_
            rintro e w6 ⟨rfl, b6⟩
            have HA6 := Lib.hid (HA5.out.trans b6)
            clear b6
            go_wp2_with fail
            go_roundg (Wn - (x + 1))
            case measure => omega
            case rel => exact ⟨HA6.out, x + 1, rfl, by omega, by go_num⟩
          · obtain rfl : x = Wn := by omega
            clear a_wr
            go_wp2_with fail
            go_roundg (Hn - (y + 1))
            case measure => omega
            case rel => exact ⟨HA2.out, y + 1, rfl, by omega, by go_num⟩
      · obtain rfl : y = Hn := by omega
        clear a_wr
        go_wp2_with fail
        refine (HLv.out _).mono ?_
        rintro e w5 ⟨rfl, b5⟩
        have HA5 := Lib.hid (a_w4.trans (HA.out.trans b5))
        clear b5
        go_wp2_with fail
        go_ret
        exact ⟨rfl, HA5.out⟩
theorem faceGlyphs_any (T : TSays) (W0 : World) (f r : Int) (hf : I64 f) (hb : -2147483648 ≤ r ∧ r ≤ 2147483647) : Calls Try.prog 11 #[.int .i64 f, .int .i32 r] W0 fun e w' => e = .returned (.bool true) ∧ AnyLater W0 w' := by
  by_cases q : 0 ≤ f ∧ f ≤ 2
  · exact faceGlyphs_some T W0 f r q hb
  · exact faceGlyphs_none T W0 f r hf hb q
end Go.Proofs.Ytbgpjfiabefajaa
