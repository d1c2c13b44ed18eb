/- rect: the law on what of a rectangle is not in another one, walked over the contracts. -/
import Derived.Test.YtddmhonhajfehaaRectM
namespace Go.Proofs.Ytddmhonhajfehaa
set_option linter.unusedSimpArgs false
set_option linter.unusedVariables false
set_option linter.unusedSectionVars false
open Go.RowKit

set_option maxHeartbeats 4000000 in
theorem rectLess_walk (x y a b x2 y2 a2 b2 p q : Int) (w : World) (hx : I64 x) (hy : I64 y) (ha : I64 a) (hb : I64 b) (hx2 : I64 x2) (hy2 : I64 y2) (ha2 : I64 a2) (hb2 : I64 b2) (hp : I64 p) (hq : I64 q) :
    Calls Try.prog 5 #[.agg #[.int .i64 x, .int .i64 y, .int .i64 a, .int .i64 b], .agg #[.int .i64 x2, .int .i64 y2, .int .i64 a2, .int .i64 b2], .agg #[.int .i64 p, .int .i64 q]] w fun e w' => e = .returned (.bool true) ∧ AnyLater w w' := by
  obtain ⟨⟨mx, my, ma, mb⟩, hm⟩ : ∃ m, meetR ⟨x, y, a, b⟩ ⟨x2, y2, a2, b2⟩ = m := ⟨_, rfl⟩
  obtain ⟨mi, _⟩ := meet_in hm
  obtain ⟨L, hL⟩ : ∃ l, lessR ⟨x, y, a, b⟩ ⟨x2, y2, a2, b2⟩ = l := ⟨_, rfl⟩
  have hl := less_math hm
  rw [hL] at hl
  obtain ⟨l1, l2, l3, l4⟩ := hl
  obtain ⟨u1, g1⟩ : ∃ c, areaZ x y a b = c := ⟨_, rfl⟩
  obtain ⟨u2, g2⟩ : ∃ c, areaZ mx my ma mb = c := ⟨_, rfl⟩
  have u3 := area_nonneg ⟨x, y, a, b⟩
  have u4 := area_le ⟨x, y, a, b⟩
  have u5 := (area_nonneg ⟨mx, my, ma, mb⟩).1
  have u6 := area_le ⟨mx, my, ma, mb⟩
  have u7 := u3.1
  unfold Rc.area at u7 u4 u5 u6
  dsimp only at u7 u4 u5 u6
  clear u3
  rw [g1] at u7 u4
  rw [g2] at u5 u6
  rw [g1, g2] at l4
  have l3 := l3 p q
  have HL := Lib.hid hL
  have HM := Lib.hid hm
  have H1 := Lib.hid l1
  have H4 := Lib.hid l4
  clear hL hm l1 l4
  rcases g3 : inB x y a b p q <;> rcases g4 : inB x2 y2 a2 b2 p q
  all_goals
    rw [g3, g4] at l3
    simp only [Bool.false_eq_true, Bool.true_eq_false, and_self, and_true, and_false, true_and, false_and, if_true, if_false] at l3
    have H3 := Lib.hid l3
    clear l3
    go_enter Try.func5, Try.ntmps5
    go_wp2_with fail
    first | refine settle_wp (fun wS => AnyLater w wS ∧ wS.heap[w.heap.size]? = some (.cells #[.int .i64 x, .int .i64 y, .int .i64 a, .int .i64 b] 23) ∧ wS.heap[w.heap.size + 1]? = some (.cells #[.int .i64 x2, .int .i64 y2, .int .i64 a2, .int .i64 b2] 23) ∧ wS.heap[w.heap.size + 1 + 1]? = some (.cells #[.int .i64 p, .int .i64 q] 28)) ?_ ?_ | refine settle_calls (fun wS => AnyLater w wS ∧ wS.heap[w.heap.size]? = some (.cells #[.int .i64 x, .int .i64 y, .int .i64 a, .int .i64 b] 23) ∧ wS.heap[w.heap.size + 1]? = some (.cells #[.int .i64 x2, .int .i64 y2, .int .i64 a2, .int .i64 b2] 23) ∧ wS.heap[w.heap.size + 1 + 1]? = some (.cells #[.int .i64 p, .int .i64 q] 28)) ?_ ?_
    · refine ⟨?_, ?_, ?_, ?_⟩
      · repeat' (first | with_reducible assumption | with_reducible exact AnyLater.refl _ | with_reducible apply AnyLater.setCell | with_reducible apply AnyLater.later | with_reducible apply AnyLater.drewN | with_reducible apply AnyLater.drew | with_reducible apply AnyLater.alloc | ((try simp only [World.size_alloc, World.size_setCell, World.size_drew]); (try dsimp only); omega))
      · ((repeat (first | with_reducible assumption | ((with_reducible apply heap_new); (try simp only [World.size_alloc, World.size_setCell, World.size_drew, World.heap_drewN]); done) | ((with_reducible apply heap_new); (try simp only [World.size_alloc, World.size_setCell, World.size_drew, World.heap_drewN]); omega) | (with_reducible refine heap_old (by (try simp only [World.size_alloc, World.size_setCell, World.size_drew, World.heap_drewN]); omega) ?_) | (with_reducible refine heap_drew ?_) | (with_reducible refine heap_far (by omega) ?_) | (with_reducible apply heap_at))); all_goals rfl)
      · ((repeat (first | with_reducible assumption | ((with_reducible apply heap_new); (try simp only [World.size_alloc, World.size_setCell, World.size_drew, World.heap_drewN]); done) | ((with_reducible apply heap_new); (try simp only [World.size_alloc, World.size_setCell, World.size_drew, World.heap_drewN]); omega) | (with_reducible refine heap_old (by (try simp only [World.size_alloc, World.size_setCell, World.size_drew, World.heap_drewN]); omega) ?_) | (with_reducible refine heap_drew ?_) | (with_reducible refine heap_far (by omega) ?_) | (with_reducible apply heap_at))); all_goals rfl)
      · ((repeat (first | with_reducible assumption | ((with_reducible apply heap_new); (try simp only [World.size_alloc, World.size_setCell, World.size_drew, World.heap_drewN]); done) | ((with_reducible apply heap_new); (try simp only [World.size_alloc, World.size_setCell, World.size_drew, World.heap_drewN]); omega) | (with_reducible refine heap_old (by (try simp only [World.size_alloc, World.size_setCell, World.size_drew, World.heap_drewN]); omega) ?_) | (with_reducible refine heap_drew ?_) | (with_reducible refine heap_far (by omega) ?_) | (with_reducible apply heap_at))); all_goals rfl)
    rintro w1 ⟨b_w1, s0_w1, s1_w1, s2_w1⟩
    have a_w1 := b_w1
    have r0_w1 := own_row s0_w1
    have f0_w1 := own_free s0_w1
    have l0_w1 := own_lt s0_w1
    have r1_w1 := own_row s1_w1
    have f1_w1 := own_free s1_w1
    have l1_w1 := own_lt s1_w1
    have r2_w1 := own_row s2_w1
    have f2_w1 := own_free s2_w1
    have l2_w1 := own_lt s2_w1
    have z_w1 := b_w1.below.size
    refine (less_any _ _ _ _ _ _ _ _ _ hx hy ha hb hx2 hy2 ha2 hb2).mono ?_
    rintro e w2 ⟨l, rfl, b_w2, hs, ho⟩
    rw [HL.out] at hs
    have z_w2 := b_w2.below.size
    have a_w2 := a_w1.trans b_w2
    have s0_w2 := any_own b_w2 s0_w1
    have s1_w2 := any_own b_w2 s1_w1
    have s2_w2 := any_own b_w2 s2_w1
    have HS := Lib.hid hs
    clear hs
    rcases HS.out.2 with ⟨rfl, h0⟩ | ⟨g, cap, cur, rfl, _, s3_w2, hc1, hc2, hc3, hc4⟩
    · have hL0 : L.length ≤ 0 := by omega
      go_wp2
      go_loopw [8, 9, 10] (fun n s i wr => n = .int .i64 0 ∧ s = .int .i64 0 ∧ i = .int .i64 0 ∧ wr = w2) (fun _ _ _ _ => 0)
      case atStart => exact ⟨rfl, rfl, rfl, rfl⟩
      case round =>
        obtain ⟨rfl, rfl, rfl, rfl⟩ := hrel
        have r0_w2 := own_row s0_w2
        have r1_w2 := own_row s1_w2
        have r2_w2 := own_row s2_w2
        have hL : L = [] := List.eq_nil_of_length_eq_zero (by omega)
        have hn := H3.out
        have hs2 := H4.out
        rw [hL] at hn hs2
        clear hL
        first
          | exact absurd (show (0 : Int) = 1 from hn) (by decide)
          | (have hs3 : u1 - u2 = 0 := hs2.symm
             have hu : (0 : Int) ≤ u1 - u2 ∧ u1 - u2 ≤ 0 := by omega
             have heq : ((0 : Int) == u1 - u2) = true := by rw [hs3]; rfl
             clear hn hs2 hs3
             go_wp2_with (go_at_call 12; refine (in_any _ _ _ _ _ _ _ _ (by assumption) (by assumption) (by assumption) (by assumption) (by assumption) (by assumption) (by assumption)).mono ?_; rintro e w6 ⟨rfl, b_w6⟩; have s0_w6 : w6.heap[w.heap.size]? = some (.cells #[.int .i64 x, .int .i64 y, .int .i64 a, .int .i64 b] 23) := any_own b_w6 (by assumption); have r0_w6 := own_row s0_w6; have s1_w6 : w6.heap[w.heap.size + 1]? = some (.cells #[.int .i64 x2, .int .i64 y2, .int .i64 a2, .int .i64 b2] 23) := any_own b_w6 (by assumption); have r1_w6 := own_row s1_w6; have s2_w6 : w6.heap[w.heap.size + 1 + 1]? = some (.cells #[.int .i64 p, .int .i64 q] 28) := any_own b_w6 (by assumption); have r2_w6 := own_row s2_w6; have a_w6 := AnyLater.trans (a := w) (by assumption) b_w6)
             apply wp_region_mem (23) [] (by kernel_rfl) (by kernel_rfl) (by simp)
             case hstab =>
               intro e he v x y hxy hv
               simp only [List.mem_cons, List.not_mem_nil, or_false] at he
             case hlex =>
               intro U
               have q0 := fun (v : Later (later U)) => own_row (any_own ⟨v, rfl⟩ (any_own ⟨U, rfl⟩ s0_w6))
               have q1 := fun (v : Later (later U)) => own_row (any_own ⟨v, rfl⟩ (any_own ⟨U, rfl⟩ s1_w6))
               have q2 := fun (v : Later (later U)) => own_row (any_own ⟨v, rfl⟩ (any_own ⟨U, rfl⟩ s2_w6))
               simp only [absFrom, absOp, idx, List.map_cons, List.map_nil, List.contains_cons, List.contains_nil, Nat.reduceBEq, Bool.or_false, Bool.false_or, Bool.true_or, Bool.or_true, Bool.false_eq_true, Nat.reduceLeDiff, Nat.reduceAdd, if_false, if_true]
               repeat (go_big_quiet_step (first | (go_at_call 13; first | exact in_later (area_any _ _ _ _ _ _ g1 hx hy ha hb) | exact in_later (area_any _ _ _ _ _ _ g2 (by omega) (by omega) (by omega) (by omega))) | (go_at_call 17; exact in_later (refMeet_at _ _ _ _ _ _ _ _ _ hx hy ha hb hx2 hy2 ha2 hb2 _ _ _ _ HM.out)) | (go_at_call 14; exact in_later (lives02 _))))
               exact wpQuiet_nil rfl
             case hown =>
               intro e he o ho
               simp only [List.mem_cons, List.not_mem_nil, or_false] at he
             case htail =>
               intro g u hst hne
               have b_w8 : AnyLater w6 (later u) := ⟨u, rfl⟩
               generalize later u = w8 at *
               clear u
               clear hst hne
               simp only [fillAll, Act.put, List.setIfInBounds_toArray, List.set_cons_zero, List.set_cons_succ, List.drop_succ_cons, List.drop_zero]
               have z_w8 := b_w8.below.size
               have a_w8 := a_w6.trans b_w8
               have s0_w8 := any_own b_w8 s0_w6
               have s1_w8 := any_own b_w8 s1_w6
               have s2_w8 := any_own b_w8 s2_w6
               have r0_w8 := own_row s0_w8
               have f0_w8 := own_free s0_w8
               have l0_w8 := own_lt s0_w8
               have r1_w8 := own_row s1_w8
               have f1_w8 := own_free s1_w8
               have l1_w8 := own_lt s1_w8
               have r2_w8 := own_row s2_w8
               have f2_w8 := own_free s2_w8
               have l2_w8 := own_lt s2_w8
               (try clear r0_w6); (try clear f0_w6)
               (try clear r1_w6); (try clear f1_w6)
               (try clear r2_w6); (try clear f2_w6)
               go_wp2
               go_ret
               exact ⟨rfl, a_w8⟩)
    · go_wp2
      go_loopw [8, 9, 10] (fun n s i wr => ∃ (k : Nat) (nk sk : Int), k ≤ L.length ∧ i = .int .i64 k ∧ n = .int .i64 nk ∧ s = .int .i64 sk ∧ cnt (L.take k) p q = nk ∧ sumA (L.take k) = sk ∧ AnyLater w2 wr) (fun _ _ i _ => L.length - (intOf i).toNat)
      case atStart => exact ⟨0, 0, 0, by omega, rfl, rfl, rfl, rfl, rfl, AnyLater.refl _⟩
      case round =>
        obtain ⟨k, nk, sk, hk, rfl, rfl, rfl, hn, hs2, b_wr⟩ := hrel
        have a_wr := a_w2.trans b_wr
        have s0_wr := any_own b_wr s0_w2
        have s1_wr := any_own b_wr s1_w2
        have s2_wr := any_own b_wr s2_w2
        have s3_wr := any_own b_wr s3_w2
        have r0_wr := own_row s0_wr
        have r1_wr := own_row s1_wr
        have r2_wr := own_row s2_wr
        have r3_wr := own_row s3_wr
        have nb := cnt_in (L.take k) p q
        have nb2 : (L.take k).length ≤ k := by simp; omega
        have sb := sumA_nonneg (L.take k)
        have HN := Lib.hid hn
        have HT := Lib.hid hs2
        rw [hn] at nb
        rw [hs2] at sb
        clear hn hs2
        by_cases hlt : k < L.length
        · obtain ⟨⟨rx, ry, ra, rb⟩, hr⟩ : ∃ r, L[k]? = some r := ⟨_, List.getElem?_eq_getElem hlt⟩
          have q0 := cur_get hc4 hr (j := 0) (by omega)
          have q1 := cur_get hc4 hr (j := 1) (by omega)
          have q2 := cur_get hc4 hr (j := 2) (by omega)
          have q3 := cur_get hc4 hr (j := 3) (by omega)
          simp only [Rc.cells, Nat.add_zero, List.getElem?_cons_zero, List.getElem?_cons_succ] at q0 q1 q2 q3
          have hany : anyB rx ry ra rb = true := H1.out _ (List.mem_of_getElem? hr)
          have hri := anyB_in hany
          obtain ⟨ar, g5⟩ : ∃ c, areaZ rx ry ra rb = c := ⟨_, rfl⟩
          have sn : sk + ar ≤ 4611686018427387904 ∧ 0 ≤ ar := by
            have h1 := sumA_take L (k + 1)
            rw [take_on hr, sumA_app, HT.out, H4.out] at h1
            have h2 := (area_nonneg ⟨rx, ry, ra, rb⟩).1
            simp only [sumA, Rc.area, g5] at h1 h2
            omega
          have HR := Lib.hid hr
          clear hr
          rcases g6 : inB rx ry ra rb p q
          all_goals
            go_wp2_with fail
            refine (any_any _ _ _ _ _ _ hany (by omega) (by omega) (by omega) (by omega)).mono ?_
            rintro e w3 ⟨rfl, b_w3⟩
            have z_w3 := b_w3.below.size
            have a_w3 := a_wr.trans b_w3
            have s0_w3 := any_own b_w3 s0_wr
            have s1_w3 := any_own b_w3 s1_wr
            have s2_w3 := any_own b_w3 s2_wr
            have s3_w3 := any_own b_w3 s3_wr
            have r0_w3 := own_row s0_w3
            have f0_w3 := own_free s0_w3
            have l0_w3 := own_lt s0_w3
            have r1_w3 := own_row s1_w3
            have f1_w3 := own_free s1_w3
            have l1_w3 := own_lt s1_w3
            have r2_w3 := own_row s2_w3
            have f2_w3 := own_free s2_w3
            have l2_w3 := own_lt s2_w3
            have r3_w3 := own_row s3_w3
            have f3_w3 := own_free s3_w3
            have l3_w3 := own_lt s3_w3
            (try clear r0_wr); (try clear f0_wr)
            (try clear r1_wr); (try clear f1_wr)
            (try clear r2_wr); (try clear f2_wr)
            (try clear r3_wr); (try clear f3_wr)
            go_wp2_with fail
            apply wp_region_mem (9) [] (by kernel_rfl) (by kernel_rfl) (by simp)
            case hstab =>
              intro e he v x y hxy hv
              simp only [List.mem_cons, List.not_mem_nil, or_false] at he
            case hlex =>
              intro U
              have q0 := fun (v : Later (later U)) => own_row (any_own ⟨v, rfl⟩ (any_own ⟨U, rfl⟩ s0_w3))
              have q1 := fun (v : Later (later U)) => own_row (any_own ⟨v, rfl⟩ (any_own ⟨U, rfl⟩ s1_w3))
              have q2 := fun (v : Later (later U)) => own_row (any_own ⟨v, rfl⟩ (any_own ⟨U, rfl⟩ s2_w3))
              have q3 := fun (v : Later (later U)) => own_row (any_own ⟨v, rfl⟩ (any_own ⟨U, rfl⟩ s3_w3))
              simp only [absFrom, absOp, idx, List.map_cons, List.map_nil, List.contains_cons, List.contains_nil, Nat.reduceBEq, Bool.or_false, Bool.false_or, Bool.true_or, Bool.or_true, Bool.false_eq_true, Nat.reduceLeDiff, Nat.reduceAdd, if_false, if_true]
              repeat (go_big_quiet_step (first | (go_at_call 12; exact in_later (in_any _ _ _ _ _ _ _ _ g6 (by omega) (by omega) (by omega) (by omega) hp hq))))
              exact wpQuiet_nil rfl
            case hown =>
              intro e he o ho
              simp only [List.mem_cons, List.not_mem_nil, or_false] at he
            case htail =>
              intro g u hst hne
              have b_w4 : AnyLater w3 (later u) := ⟨u, rfl⟩
              generalize later u = w4 at *
              clear u
              clear hst hne
              simp only [fillAll, Act.put, List.setIfInBounds_toArray, List.set_cons_zero, List.set_cons_succ, List.drop_succ_cons, List.drop_zero]
              have z_w4 := b_w4.below.size
              have a_w4 := a_w3.trans b_w4
              have s0_w4 := any_own b_w4 s0_w3
              have s1_w4 := any_own b_w4 s1_w3
              have s2_w4 := any_own b_w4 s2_w3
              have s3_w4 := any_own b_w4 s3_w3
              have r0_w4 := own_row s0_w4
              have f0_w4 := own_free s0_w4
              have l0_w4 := own_lt s0_w4
              have r1_w4 := own_row s1_w4
              have f1_w4 := own_free s1_w4
              have l1_w4 := own_lt s1_w4
              have r2_w4 := own_row s2_w4
              have f2_w4 := own_free s2_w4
              have l2_w4 := own_lt s2_w4
              have r3_w4 := own_row s3_w4
              have f3_w4 := own_free s3_w4
              have l3_w4 := own_lt s3_w4
              (try clear r0_w3); (try clear f0_w3)
              (try clear r1_w3); (try clear f1_w3)
              (try clear r2_w3); (try clear f2_w3)
              (try clear r3_w3); (try clear f3_w3)
              go_wp2_with fail
              refine (area_any _ _ _ _ _ _ g5 (by omega) (by omega) (by omega) (by omega)).mono ?_
              rintro e w5 ⟨rfl, b_w5⟩
              have z_w5 := b_w5.below.size
              have a_w5 := a_w4.trans b_w5
              have s0_w5 := any_own b_w5 s0_w4
              have s1_w5 := any_own b_w5 s1_w4
              have s2_w5 := any_own b_w5 s2_w4
              have s3_w5 := any_own b_w5 s3_w4
              have r0_w5 := own_row s0_w5
              have f0_w5 := own_free s0_w5
              have l0_w5 := own_lt s0_w5
              have r1_w5 := own_row s1_w5
              have f1_w5 := own_free s1_w5
              have l1_w5 := own_lt s1_w5
              have r2_w5 := own_row s2_w5
              have f2_w5 := own_free s2_w5
              have l2_w5 := own_lt s2_w5
              have r3_w5 := own_row s3_w5
              have f3_w5 := own_free s3_w5
              have l3_w5 := own_lt s3_w5
              (try clear r0_w4); (try clear f0_w4)
              (try clear r1_w4); (try clear f1_w4)
              (try clear r2_w4); (try clear f2_w4)
              (try clear r3_w4); (try clear f3_w4)
              go_wp2
              go_roundw
              case rel =>
                refine ⟨k + 1, _, _, by omega, by go_num, rfl, rfl, ?_, ?_, b_wr.trans (b_w3.trans (b_w4.trans b_w5))⟩
                · rw [take_on HR.out, cnt_snoc, HN.out]; unfold Rc.has; dsimp only; rw [g6]; simp
                · rw [take_on HR.out, sumA_app, HT.out]; simp only [sumA, Rc.area, g5]; omega
              case measure => simp [intOf]; omega
        · obtain rfl : k = L.length := by omega
          have hn := HN.out
          have hs2 := HT.out
          rw [List.take_length, H3.out] at hn
          rw [List.take_length, H4.out] at hs2
          subst hn
          subst hs2
          clear nb nb2 sb
          have l5 : (L.length : Int) ≤ 4 := by omega
          have l6 : decide ((L.length : Int) ≤ 4) = true := by simp; omega
          go_wp2_with (go_at_call 12; refine (in_any _ _ _ _ _ _ _ _ (by assumption) (by assumption) (by assumption) (by assumption) (by assumption) (by assumption) (by assumption)).mono ?_; rintro e w6 ⟨rfl, b_w6⟩; have s0_w6 : w6.heap[w.heap.size]? = some (.cells #[.int .i64 x, .int .i64 y, .int .i64 a, .int .i64 b] 23) := any_own b_w6 (by assumption); have r0_w6 := own_row s0_w6; have s1_w6 : w6.heap[w.heap.size + 1]? = some (.cells #[.int .i64 x2, .int .i64 y2, .int .i64 a2, .int .i64 b2] 23) := any_own b_w6 (by assumption); have r1_w6 := own_row s1_w6; have s2_w6 : w6.heap[w.heap.size + 1 + 1]? = some (.cells #[.int .i64 p, .int .i64 q] 28) := any_own b_w6 (by assumption); have r2_w6 := own_row s2_w6; have a_w6 := AnyLater.trans (a := w) (by assumption) b_w6)
          apply wp_region_mem (23) [] (by kernel_rfl) (by kernel_rfl) (by simp)
          case hstab =>
            intro e he v x y hxy hv
            simp only [List.mem_cons, List.not_mem_nil, or_false] at he
          case hlex =>
            intro U
            have q0 := fun (v : Later (later U)) => own_row (any_own ⟨v, rfl⟩ (any_own ⟨U, rfl⟩ s0_w6))
            have q1 := fun (v : Later (later U)) => own_row (any_own ⟨v, rfl⟩ (any_own ⟨U, rfl⟩ s1_w6))
            have q2 := fun (v : Later (later U)) => own_row (any_own ⟨v, rfl⟩ (any_own ⟨U, rfl⟩ s2_w6))
            simp only [absFrom, absOp, idx, List.map_cons, List.map_nil, List.contains_cons, List.contains_nil, Nat.reduceBEq, Bool.or_false, Bool.false_or, Bool.true_or, Bool.or_true, Bool.false_eq_true, Nat.reduceLeDiff, Nat.reduceAdd, if_false, if_true]
            repeat (go_big_quiet_step (first | (go_at_call 13; first | exact in_later (area_any _ _ _ _ _ _ g1 hx hy ha hb) | exact in_later (area_any _ _ _ _ _ _ g2 (by omega) (by omega) (by omega) (by omega))) | (go_at_call 17; exact in_later (refMeet_at _ _ _ _ _ _ _ _ _ hx hy ha hb hx2 hy2 ha2 hb2 _ _ _ _ HM.out)) | (go_at_call 14; exact in_later (lives02 _))))
            exact wpQuiet_nil rfl
          case hown =>
            intro e he o ho
            simp only [List.mem_cons, List.not_mem_nil, or_false] at he
          case htail =>
            intro g u hst hne
            have b_w8 : AnyLater w6 (later u) := ⟨u, rfl⟩
            generalize later u = w8 at *
            clear u
            clear hst hne
            simp only [fillAll, Act.put, List.setIfInBounds_toArray, List.set_cons_zero, List.set_cons_succ, List.drop_succ_cons, List.drop_zero]
            have z_w8 := b_w8.below.size
            have a_w8 := a_w6.trans b_w8
            have s0_w8 := any_own b_w8 s0_w6
            have s1_w8 := any_own b_w8 s1_w6
            have s2_w8 := any_own b_w8 s2_w6
            have r0_w8 := own_row s0_w8
            have f0_w8 := own_free s0_w8
            have l0_w8 := own_lt s0_w8
            have r1_w8 := own_row s1_w8
            have f1_w8 := own_free s1_w8
            have l1_w8 := own_lt s1_w8
            have r2_w8 := own_row s2_w8
            have f2_w8 := own_free s2_w8
            have l2_w8 := own_lt s2_w8
            (try clear r0_w6); (try clear f0_w6)
            (try clear r1_w6); (try clear f1_w6)
            (try clear r2_w6); (try clear f2_w6)
            go_wp2
            go_ret
            exact ⟨rfl, a_w8⟩
end Go.Proofs.Ytddmhonhajfehaa
