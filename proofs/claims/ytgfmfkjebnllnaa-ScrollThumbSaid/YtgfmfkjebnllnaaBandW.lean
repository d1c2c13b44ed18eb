/- band: Meet and Less by contract. -/
import Derived.Test.YtgfmfkjebnllnaaBandV
namespace Go.Proofs.Ytgfmfkjebnllnaa
set_option linter.unusedSimpArgs false
set_option linter.unusedVariables false
set_option linter.unusedSectionVars false
open Go.RowKit

theorem rb_tail {w : World} {b off n cap : Nat} {x : Int × Int} {A : Bands} (h : RB w (.slice (some ⟨b, off, none⟩) (n + 1) cap) (x :: A)) (hn : A.length = n) {A2 : Option Addr} {c2 : Nat} (hc2 : c2 = cap - 1) (hA : cap ≠ 1 → A2 = some ⟨b, off + 2, none⟩) : RB w (.slice A2 n c2) A := by
  obtain ⟨A0, c0, e, p1, p2⟩ := h
  cases e
  simp only [List.length_cons] at p1 p2
  subst hc2
  refine ⟨A2, cap - 1, by rw [hn], by omega, fun h0 => ?_⟩
  obtain ⟨b1, off1, e, hb, hc⟩ := p2 (by omega)
  cases e
  refine ⟨b, off + 2, hA (by omega), hb, fun j hj => ?_⟩
  have := hc (j + 1) (by omega)
  simp only [List.getElem_cons_succ] at this
  rw [show off + 2 + j * 2 = off + (j + 1) * 2 by omega]
  exact this

set_option maxRecDepth 100000 in
set_option maxHeartbeats 6400000 in
theorem meet_any (v v2 : Value) (l l2 : Bands) (w : World) (h : RB w v l) (h2 : RB w v2 l2) (hn : l.length ≤ 5000) (hn2 : l2.length ≤ 5010) : Calls Try.prog 25 #[v, v2] w (Told w fun y => inB l y && inB l2 y) := by
  obtain ⟨i0, hi0, hz0, hz1, hz2⟩ := info_parts info_band
  have H1 := Lib.hid (tidy_any v l w h (by omega))
  have H2 := Lib.hid (And.intro h2 (And.intro hn hn2))
  clear h h2 hn hn2
  go_enter Try.func25, Try.ntmps25
  go_wp2_with fail
  refine H1.out.mono ?_
  rintro e w1 ⟨va, TA, rfl, a_w1, ra, ga, ya⟩
  have H3 := Lib.hid (And.intro ra (And.intro ga ya))
  have H4 := Lib.hid (tidy_any v2 l2 w1 (H2.out.1.later a_w1) (by have := H2.out; omega))
  clear ra ga ya
  go_wp2_with fail
  refine H4.out.mono ?_
  rintro e w2 ⟨vb, TB, rfl, b_w2, rb, gb, yb⟩
  have H5 := Lib.hid (And.intro (H3.out.1.later b_w2) rb)
  obtain ⟨hG, hR⟩ := meetB_both _ TA TB (Nat.le_refl _) H3.out.2.1 gb
  have HL : Hid ((meetB TA TB).length ≤ 20000) := Lib.hid (by
    have := meetB_len _ TA TB (Nat.le_refl _)
    have := len_one H3.out.2.1 H3.out.2.2
    have := len_one gb yb
    have := H2.out
    omega)
  have HM : Hid (GoodL (meetB TA TB) ∧ ∀ y, inB (meetB TA TB) y = (inB l y && inB l2 y)) := Lib.hid ⟨hG, fun y => by rw [hR, H3.out.2.2, yb]⟩
  have HW := Lib.hid (a_w1.trans b_w2)
  clear rb gb yb hG hR H4
  go_wp2_with fail
  go_loopg [0, 1, 5] (TA.length + TB.length) (fun k a b v wr => ∃ A B K : Bands, k = A.length + B.length ∧ AnyLater w2 wr ∧ RB w2 a A ∧ RB w2 b B ∧ OB wr w2.heap.size v K ∧ K ++ meetB A B = meetB TA TB)
  case atStart => exact ⟨TA, TB, [], rfl, AnyLater.refl _, H5.out.1, H5.out.2, ⟨rfl, .inl ⟨rfl, rfl⟩⟩, rfl⟩
  case round =>
    obtain ⟨A, B, K, hk, a_wr, hA, hB, ho, hK⟩ := hrel
    have HA := Lib.hid hA
    have HB := Lib.hid hB
    obtain ⟨A0, ca, rfl, p1, p2⟩ := hA
    obtain ⟨B0, cb, rfl, q1, q2⟩ := hB
    have HO := Lib.hid ho
    have HK := Lib.hid hK
    have HKL : Hid (K.length + 1 ≤ 20001) := Lib.hid (by have := HL.out; rw [← hK, List.length_append] at this; omega)
    clear ho hK
    cases A with
    | nil =>
      simp only [List.length_nil]
      go_wp2_with fail
      go_ret
      exact ⟨_, _, rfl, HW.out.trans a_wr, HO.out.reads, by
        have e := HK.out
        rw [meetB_nil, List.append_nil] at e
        rw [e]
        exact HM.out⟩
    | cons x A1 =>
      have k1 : (0 : Int) < (A1.length : Int) + 1 := by omega
      cases B with
      | nil =>
        simp only [List.length_nil, List.length_cons]
        go_wp2_with fail
        go_ret
        exact ⟨_, _, rfl, HW.out.trans a_wr, HO.out.reads, by
          have e := HK.out
          rw [meetB_nil2, List.append_nil] at e
          rw [e]
          exact HM.out⟩
      | cons y B1 =>
        have k2 : (0 : Int) < (B1.length : Int) + 1 := by omega
        obtain ⟨b1, off1, rfl, hb1, hc1⟩ := p2 (by simp)
        obtain ⟨b2, off2, rfl, hb2, hc2⟩ := q2 (by simp)
        obtain ⟨c0_w2, c1_w2⟩ := hc1 0 (by simp)
        obtain ⟨d0_w2, d1_w2⟩ := hc2 0 (by simp)
        obtain ⟨x1, x2⟩ := x
        obtain ⟨y1, y2⟩ := y
        simp only [Nat.zero_mul, Nat.add_zero, List.getElem_cons_zero] at c0_w2 c1_w2 d0_w2 d1_w2
        simp only [List.length_cons] at p1 q1 hk ⊢
        have HS := Lib.hid (meetB_cons (x1, x2) (y1, y2) A1 B1)
        obtain ⟨r1, hr1⟩ : ∃ r, clZ x1 y1 y2 = r := ⟨_, rfl⟩
        obtain ⟨r2, hr2⟩ : ∃ r, clZ x2 y1 y2 = r := ⟨_, rfl⟩
        have HC : Hid (clB (x1, x2) y1 y2 = (r1, r2)) := Lib.hid (by unfold clB; rw [hr1, hr2])
        have HN1 := Lib.hid (rfl : A1.length = A1.length)
        obtain ⟨n1, hn1⟩ : ∃ n, A1.length = n := ⟨_, rfl⟩
        obtain ⟨n2, hn2⟩ : ∃ n, B1.length = n := ⟨_, rfl⟩
        have HN := Lib.hid (And.intro hn1 hn2)
        have HA1 := Lib.hid (HA.out)
        have HB1 := Lib.hid (HB.out)
        simp only [List.length_cons, hn1, hn2] at HA1 HB1
        rw [hn1] at k1 p1 hk
        rw [hn2] at k2 q1 hk
        rw [hn1, hn2]
        clear hn1 hn2 hc1 hc2 p2 q2 HN1 HA HB
        have c0 := cell_on a_wr c0_w2
        have c1 := cell_on a_wr c1_w2
        have d0 := cell_on a_wr d0_w2
        have d1 := cell_on a_wr d1_w2
        go_wp2_with fail
        apply wp_region_mem (13) [⟨12, 6, isVar (.cells #[.int .i64 0, .int .i64 0] 39)⟩] (by kernel_rfl) (by kernel_rfl) (by simp)
        case hstab =>
          intro e he v x y hxy hv
          simp only [List.mem_cons, List.not_mem_nil, or_false] at he
          rcases he with rfl
          · exact isVar_stays hxy hv
        case hlex =>
          intro U
          have q_c0 := fun (v : Later (later U)) => cell_on (AnyLater.trans ⟨U, rfl⟩ ⟨v, rfl⟩) c0
          have q_c1 := fun (v : Later (later U)) => cell_on (AnyLater.trans ⟨U, rfl⟩ ⟨v, rfl⟩) c1
          have q_d0 := fun (v : Later (later U)) => cell_on (AnyLater.trans ⟨U, rfl⟩ ⟨v, rfl⟩) d0
          have q_d1 := fun (v : Later (later U)) => cell_on (AnyLater.trans ⟨U, rfl⟩ ⟨v, rfl⟩) d1
          simp only [absFrom, absOp, idx, List.map_cons, List.map_nil, List.contains_cons, List.contains_nil, Nat.reduceBEq, Bool.or_false, Bool.false_or, Bool.true_or, Bool.or_true, Bool.false_eq_true, Nat.reduceLeDiff, Nat.reduceAdd, if_false, if_true]
          repeat (go_big_quiet_step (first | (go_at_call 30; exact in_later (within_any _ _ _ _ _ _ _ (by assumption) (by assumption)))))
          exact wpQuiet_nil rfl
        case hown =>
          intro e he o ho
          simp only [List.mem_cons, List.not_mem_nil, or_false] at he
          rcases he with rfl
          · cases ho; exact step_var (fun r x => by simp [go_sem, execOp])
        case htail =>
          intro g u hst hne
          have b_w3 : AnyLater wr (later u) := ⟨u, rfl⟩
          generalize later u = w3 at *
          clear u
          obtain ⟨⟨b6, e6, s0_w3⟩, o6_w3⟩ := hst _ (List.mem_of_getElem? (i := 0) rfl)
          dsimp only at e6 o6_w3
          have o6_w3 := o6_w3 b6 (by rw [e6]; rfl)
          clear hst hne
          simp only [fillAll, Act.put, List.setIfInBounds_toArray, List.set_cons_zero, List.set_cons_succ, List.drop_succ_cons, List.drop_zero]
          rw [e6]
          clear e6
          have z_w3 := b_w3.below.size
          have a_w3 := a_wr.trans b_w3
          have r0_w3 := own_row s0_w3
          have f0_w3 := own_free s0_w3
          have l0_w3 := own_lt s0_w3
          have c0_w3 := cell_on b_w3 c0
          have c1_w3 := cell_on b_w3 c1
          have d0_w3 := cell_on b_w3 d0
          have d1_w3 := cell_on b_w3 d1
          go_wp2_with fail
          first | refine settle_wp (fun wS => AnyLater wr wS ∧ wS.heap[b6]? = some (.cells #[.int .i64 r1, .int .i64 r2] 39)) ?_ ?_ | refine settle_calls (fun wS => AnyLater wr wS ∧ wS.heap[b6]? = some (.cells #[.int .i64 r1, .int .i64 r2] 39)) ?_ ?_
          · refine ⟨?_, ?_⟩
            · repeat' (first | with_reducible assumption | with_reducible exact AnyLater.refl _ | with_reducible apply AnyLater.setCell | with_reducible apply AnyLater.later | with_reducible apply AnyLater.drewN | with_reducible apply AnyLater.drew | with_reducible apply AnyLater.alloc | ((try simp only [World.size_alloc, World.size_setCell, World.size_drew]); (try dsimp only); omega))
            · ((repeat (first | with_reducible assumption | ((with_reducible apply heap_new); (try simp only [World.size_alloc, World.size_setCell, World.size_drew, World.heap_drewN]); done) | ((with_reducible apply heap_new); (try simp only [World.size_alloc, World.size_setCell, World.size_drew, World.heap_drewN]); omega) | (with_reducible refine heap_old (by (try simp only [World.size_alloc, World.size_setCell, World.size_drew, World.heap_drewN]); omega) ?_) | (with_reducible refine heap_drew ?_) | (with_reducible refine heap_far (by omega) ?_) | (with_reducible apply heap_at))); all_goals rfl)
          rintro w4 ⟨b_w4, s0_w4⟩
          have a_w4 := a_wr.trans b_w4
          have r0_w4 := own_row s0_w4
          have f0_w4 := own_free s0_w4
          have l0_w4 := own_lt s0_w4
          have z_w4 := b_w4.below.size
          have hz : b6 < w4.heap.size := own_lt s0_w4
          by_cases hf : r1 < r2
          · have hf1 : decide (r1 < r2) = true := decide_eq_true hf
            refine (filled_any r1 r2 w4 true hf1).mono ?_
            rintro e w5 ⟨rfl, b_w5⟩
            have z_w5 := b_w5.below.size
            have a_w5 := a_w4.trans b_w5
            have s0_w5 := any_own b_w5 s0_w4
            have r0_w5 := own_row s0_w5
            have f0_w5 := own_free s0_w5
            have l0_w5 := own_lt s0_w5
            (try clear r0_w4); (try clear f0_w4)
            have HO5 := Lib.hid ((HO.out.later (b_w4.trans b_w5)).later ((AnyLater.refl w5).alloc (.cells #[.int .i64 r1, .int .i64 r2] 39)))
            have HB5 := Lib.hid (World.news_of_block (w := w5.alloc (.cells #[.int .i64 r1, .int .i64 r2] 39)) (cs := #[.int .i64 r1, .int .i64 r2]) (t := 39) (fr := (0, 0)) (heap_new rfl))
            have HAL := Lib.hid (And.intro (a_w5.alloc (.cells #[.int .i64 r1, .int .i64 r2] 39)) (owns_base HO.out))
            have HQ : Hid (K.length + 1 ≤ maxLen ∧ (K.length + 1) * 16 ≤ 140737488355328 ∧ w2.heap.size ≤ (w5.alloc (.cells #[.int .i64 r1, .int .i64 r2] 39)).heap.size) := Lib.hid ⟨by have := HKL.out; unfold maxLen; omega, by have := HKL.out; omega, HAL.out.1.below.size⟩
            have HS1 : Hid ((K ++ [(r1, r2)]) ++ (if x2 < y2 then meetB A1 ((y1, y2) :: B1) else meetB ((x1, x2) :: A1) B1) = meetB TA TB) := Lib.hid (by
              rw [← HK.out, HS.out, HC.out, if_pos hf, List.append_assoc])
            clear hf1
            go_wp2_with (at_builtin; refine wpList_append_own _ rfl _ _ 31 rfl w2.heap.size 39 i0 (.agg #[.int .i64 0, .int .i64 0]) 2 16 Try.underlying31 hi0 hz0 hz1 hz2 rfl (by decide) _ K.length (flatB K) rfl HO5.out ⟨w5.heap.size, 0, none⟩ 1 1 [.int .i64 r1, .int .i64 r2] rfl rfl HB5.out (by simp [Value.oneCell']) HQ.out.1 HQ.out.2.1 HQ.out.2.2 ?_; intro v' w6 hown1 hgrow hnil; have a_w6 := grown_later HAL.out.1 hgrow HAL.out.2; have S : Hid (OB w6 w2.heap.size v' (K ++ [(r1, r2)])) := Lib.hid (by unfold OB; rw [List.length_append, flatB_append]; exact hown1); clear hown1 hgrow hnil)
            have c_w6 := cell_on a_w6 c1_w2
            have d_w6 := cell_on a_w6 d1_w2
            by_cases hlt : x2 < y2
            · have hlt2 := hlt
              apply wp_region_mem (9) [] (by kernel_rfl) (by kernel_rfl) (by simp)
              case hstab =>
                intro e he v x y hxy hv
                simp only [List.mem_cons, List.not_mem_nil, or_false] at he
              case hlex =>
                intro U
                have q_c_w6 := fun (v : Later (later U)) => cell_on (AnyLater.trans ⟨U, rfl⟩ ⟨v, rfl⟩) c_w6
                have q_d_w6 := fun (v : Later (later U)) => cell_on (AnyLater.trans ⟨U, rfl⟩ ⟨v, rfl⟩) d_w6
                simp only [absFrom, absOp, idx, List.map_cons, List.map_nil, List.contains_cons, List.contains_nil, Nat.reduceBEq, Bool.or_false, Bool.false_or, Bool.true_or, Bool.or_true, Bool.false_eq_true, Nat.reduceLeDiff, Nat.reduceAdd, if_false, if_true]
                repeat (go_big_quiet_step (first | fail))
                exact wpQuiet_nil rfl
              case hown =>
                intro e he o ho
                simp only [List.mem_cons, List.not_mem_nil, or_false] at he
              case htail =>
                intro g u hst hne
                have b_w7 : AnyLater w6 (later u) := ⟨u, rfl⟩
                generalize later u = w7 at *
                clear u
                clear hst hne
                simp only [fillAll, Act.put, List.setIfInBounds_toArray, List.set_cons_zero, List.set_cons_succ, List.drop_succ_cons, List.drop_zero]
                have z_w7 := b_w7.below.size
                have a_w7 := a_w6.trans b_w7
                have c_w6_w7 := cell_on b_w7 c_w6
                have d_w6_w7 := cell_on b_w7 d_w6
                go_wp2_with fail
                all_goals
                  go_roundg (n1 + (n2 + 1))
                  case measure => omega
                  case rel => exact ⟨A1, (y1, y2) :: B1, (K ++ [(r1, r2)]), by rw [List.length_cons, HN.out.1, HN.out.2], a_w7, rb_tail HA1.out HN.out.1 (by omega) (by intro hne; first | rfl | (exfalso; omega)), HB1.out, S.out.later b_w7, by have e := HS1.out; rwa [if_pos hlt2] at e⟩
            · have hlt2 := hlt
              apply wp_region_mem (9) [] (by kernel_rfl) (by kernel_rfl) (by simp)
              case hstab =>
                intro e he v x y hxy hv
                simp only [List.mem_cons, List.not_mem_nil, or_false] at he
              case hlex =>
                intro U
                have q_c_w6 := fun (v : Later (later U)) => cell_on (AnyLater.trans ⟨U, rfl⟩ ⟨v, rfl⟩) c_w6
                have q_d_w6 := fun (v : Later (later U)) => cell_on (AnyLater.trans ⟨U, rfl⟩ ⟨v, rfl⟩) d_w6
                simp only [absFrom, absOp, idx, List.map_cons, List.map_nil, List.contains_cons, List.contains_nil, Nat.reduceBEq, Bool.or_false, Bool.false_or, Bool.true_or, Bool.or_true, Bool.false_eq_true, Nat.reduceLeDiff, Nat.reduceAdd, if_false, if_true]
                repeat (go_big_quiet_step (first | fail))
                exact wpQuiet_nil rfl
              case hown =>
                intro e he o ho
                simp only [List.mem_cons, List.not_mem_nil, or_false] at he
              case htail =>
                intro g u hst hne
                have b_w7 : AnyLater w6 (later u) := ⟨u, rfl⟩
                generalize later u = w7 at *
                clear u
                clear hst hne
                simp only [fillAll, Act.put, List.setIfInBounds_toArray, List.set_cons_zero, List.set_cons_succ, List.drop_succ_cons, List.drop_zero]
                have z_w7 := b_w7.below.size
                have a_w7 := a_w6.trans b_w7
                have c_w6_w7 := cell_on b_w7 c_w6
                have d_w6_w7 := cell_on b_w7 d_w6
                go_wp2_with fail
                all_goals
                  go_roundg (n1 + 1 + n2)
                  case measure => omega
                  case rel => exact ⟨(x1, x2) :: A1, B1, (K ++ [(r1, r2)]), by rw [List.length_cons, HN.out.1, HN.out.2], a_w7, HA1.out, rb_tail HB1.out HN.out.2 (by omega) (by intro hne; first | rfl | (exfalso; omega)), S.out.later b_w7, by have e := HS1.out; rwa [if_neg (by omega)] at e⟩
          · have hf1 : decide (r1 < r2) = false := decide_eq_false hf
            refine (filled_any r1 r2 w4 false hf1).mono ?_
            rintro e w6 ⟨rfl, b_w6⟩
            have z_w6 := b_w6.below.size
            have a_w6 := a_w4.trans b_w6
            have s0_w6 := any_own b_w6 s0_w4
            have r0_w6 := own_row s0_w6
            have f0_w6 := own_free s0_w6
            have l0_w6 := own_lt s0_w6
            (try clear r0_w4); (try clear f0_w4)
            have S := Lib.hid (HO.out.later (b_w4.trans b_w6))
            have HS1 : Hid (K ++ (if x2 < y2 then meetB A1 ((y1, y2) :: B1) else meetB ((x1, x2) :: A1) B1) = meetB TA TB) := Lib.hid (by
              rw [← HK.out, HS.out, HC.out, if_neg hf, List.nil_append])
            clear hf1
            go_wp2_with fail
            have c_w6 := cell_on a_w6 c1_w2
            have d_w6 := cell_on a_w6 d1_w2
            by_cases hlt : x2 < y2
            · have hlt2 := hlt
              apply wp_region_mem (9) [] (by kernel_rfl) (by kernel_rfl) (by simp)
              case hstab =>
                intro e he v x y hxy hv
                simp only [List.mem_cons, List.not_mem_nil, or_false] at he
              case hlex =>
                intro U
                have q_c_w6 := fun (v : Later (later U)) => cell_on (AnyLater.trans ⟨U, rfl⟩ ⟨v, rfl⟩) c_w6
                have q_d_w6 := fun (v : Later (later U)) => cell_on (AnyLater.trans ⟨U, rfl⟩ ⟨v, rfl⟩) d_w6
                simp only [absFrom, absOp, idx, List.map_cons, List.map_nil, List.contains_cons, List.contains_nil, Nat.reduceBEq, Bool.or_false, Bool.false_or, Bool.true_or, Bool.or_true, Bool.false_eq_true, Nat.reduceLeDiff, Nat.reduceAdd, if_false, if_true]
                repeat (go_big_quiet_step (first | fail))
                exact wpQuiet_nil rfl
              case hown =>
                intro e he o ho
                simp only [List.mem_cons, List.not_mem_nil, or_false] at he
              case htail =>
                intro g u hst hne
                have b_w7 : AnyLater w6 (later u) := ⟨u, rfl⟩
                generalize later u = w7 at *
                clear u
                clear hst hne
                simp only [fillAll, Act.put, List.setIfInBounds_toArray, List.set_cons_zero, List.set_cons_succ, List.drop_succ_cons, List.drop_zero]
                have z_w7 := b_w7.below.size
                have a_w7 := a_w6.trans b_w7
                have c_w6_w7 := cell_on b_w7 c_w6
                have d_w6_w7 := cell_on b_w7 d_w6
                go_wp2_with fail
                all_goals
                  go_roundg (n1 + (n2 + 1))
                  case measure => omega
                  case rel => exact ⟨A1, (y1, y2) :: B1, K, by rw [List.length_cons, HN.out.1, HN.out.2], a_w7, rb_tail HA1.out HN.out.1 (by omega) (by intro hne; first | rfl | (exfalso; omega)), HB1.out, S.out.later b_w7, by have e := HS1.out; rwa [if_pos hlt2] at e⟩
            · have hlt2 := hlt
              apply wp_region_mem (9) [] (by kernel_rfl) (by kernel_rfl) (by simp)
              case hstab =>
                intro e he v x y hxy hv
                simp only [List.mem_cons, List.not_mem_nil, or_false] at he
              case hlex =>
                intro U
                have q_c_w6 := fun (v : Later (later U)) => cell_on (AnyLater.trans ⟨U, rfl⟩ ⟨v, rfl⟩) c_w6
                have q_d_w6 := fun (v : Later (later U)) => cell_on (AnyLater.trans ⟨U, rfl⟩ ⟨v, rfl⟩) d_w6
                simp only [absFrom, absOp, idx, List.map_cons, List.map_nil, List.contains_cons, List.contains_nil, Nat.reduceBEq, Bool.or_false, Bool.false_or, Bool.true_or, Bool.or_true, Bool.false_eq_true, Nat.reduceLeDiff, Nat.reduceAdd, if_false, if_true]
                repeat (go_big_quiet_step (first | fail))
                exact wpQuiet_nil rfl
              case hown =>
                intro e he o ho
                simp only [List.mem_cons, List.not_mem_nil, or_false] at he
              case htail =>
                intro g u hst hne
                have b_w7 : AnyLater w6 (later u) := ⟨u, rfl⟩
                generalize later u = w7 at *
                clear u
                clear hst hne
                simp only [fillAll, Act.put, List.setIfInBounds_toArray, List.set_cons_zero, List.set_cons_succ, List.drop_succ_cons, List.drop_zero]
                have z_w7 := b_w7.below.size
                have a_w7 := a_w6.trans b_w7
                have c_w6_w7 := cell_on b_w7 c_w6
                have d_w6_w7 := cell_on b_w7 d_w6
                go_wp2_with fail
                all_goals
                  go_roundg (n1 + 1 + n2)
                  case measure => omega
                  case rel => exact ⟨(x1, x2) :: A1, B1, K, by rw [List.length_cons, HN.out.1, HN.out.2], a_w7, HA1.out, rb_tail HB1.out HN.out.2 (by omega) (by intro hne; first | rfl | (exfalso; omega)), S.out.later b_w7, by have e := HS1.out; rwa [if_neg (by omega)] at e⟩

/-! ### Less -/
set_option maxHeartbeats 1600000 in
theorem less_any (v v2 : Value) (l l2 : Bands) (w : World) (h : RB w v l) (h2 : RB w v2 l2) (hn : l.length ≤ 5000) (hn2 : l2.length ≤ 5000) : Calls Try.prog 22 #[v, v2] w (Told w fun y => inB l y && !inB l2 y) := by
  have H1 := Lib.hid (gaps_any v2 l2 w h2 hn2)
  have H2 := Lib.hid (And.intro h (And.intro hn hn2))
  clear h h2 hn hn2
  go_enter Try.func22, Try.ntmps22
  go_wp2_with fail
  refine H1.out.mono ?_
  rintro e w1 ⟨v3, T, rfl, a_w1, r1, g1, y1⟩
  have HG := Lib.hid (gaps_not g1 y1 l)
  have H3 := Lib.hid (meet_any v v3 l (gapsB (-1073741824) T) w1 (H2.out.1.later a_w1) r1 H2.out.2.1 (by
    rw [gapsB_len]
    have := len_one g1 y1
    have := H2.out.2.2
    omega))
  clear r1 g1 y1
  go_wp2_with fail
  refine H3.out.mono ?_
  rintro e w2 ⟨v4, T2, rfl, b_w2, r2, g2, y2⟩
  have HE := Lib.hid (And.intro r2 (And.intro g2 y2))
  clear r2 g2 y2
  go_wp2_with fail
  go_ret
  exact ⟨_, T2, rfl, a_w1.trans b_w2, HE.out.1, HE.out.2.1, fun y => (HE.out.2.2 y).trans (HG.out y)⟩
end Go.Proofs.Ytgfmfkjebnllnaa
