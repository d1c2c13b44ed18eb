/- rect: what of a rectangle is not in another one that it meets: the program's own loop. -/
import Derived.Test.YtddmhonhajfehaaRectJ
namespace Go.Proofs.Ytddmhonhajfehaa
set_option linter.unusedSimpArgs false
set_option linter.unusedVariables false
set_option linter.unusedSectionVars false
open Go.RowKit

/-- the parts kept of the first k -/
def kept (ps : List Rc) (k : Nat) : List Rc := (ps.take k).filter Rc.any
theorem kept_on {ps : List Rc} {k : Nat} {r : Rc} (hk : ps[k]? = some r) (h : r.any = true) : kept ps (k + 1) = kept ps k ++ [r] := by
  obtain ⟨hl, he⟩ := List.getElem?_eq_some_iff.1 hk
  unfold kept
  rw [List.take_succ_eq_append_getElem hl, List.filter_append, he]
  simp [h]
theorem kept_off {ps : List Rc} {k : Nat} {r : Rc} (hk : ps[k]? = some r) (h : r.any = false) : kept ps (k + 1) = kept ps k := by
  obtain ⟨hl, he⟩ := List.getElem?_eq_some_iff.1 hk
  unfold kept
  rw [List.take_succ_eq_append_getElem hl, List.filter_append, he]
  simp [h]
theorem kept_le (ps : List Rc) (k : Nat) : (kept ps k).length ≤ k := Nat.le_trans (List.length_filter_le _ _) (by simp; omega)
theorem rcs_snoc (l : List Rc) (r : Rc) : rcs (l ++ [r]) = rcs l ++ r.cells := by unfold rcs; simp

theorem part_0 (v0 v1 v2 v3 v4 v5 v6 v7 v8 v9 v10 v11 v12 v13 v14 v15 : Value) (w : World) : (Instr.index 37 (.agg #[v0, v1, v2, v3, v4, v5, v6, v7, v8, v9, v10, v11, v12, v13, v14, v15]) (.int .i64 0)).run Try.prog w = .ok (.agg #[v0, v1, v2, v3]) w := by kernel_rfl
theorem part_1 (v0 v1 v2 v3 v4 v5 v6 v7 v8 v9 v10 v11 v12 v13 v14 v15 : Value) (w : World) : (Instr.index 37 (.agg #[v0, v1, v2, v3, v4, v5, v6, v7, v8, v9, v10, v11, v12, v13, v14, v15]) (.int .i64 1)).run Try.prog w = .ok (.agg #[v4, v5, v6, v7]) w := by kernel_rfl
theorem part_2 (v0 v1 v2 v3 v4 v5 v6 v7 v8 v9 v10 v11 v12 v13 v14 v15 : Value) (w : World) : (Instr.index 37 (.agg #[v0, v1, v2, v3, v4, v5, v6, v7, v8, v9, v10, v11, v12, v13, v14, v15]) (.int .i64 2)).run Try.prog w = .ok (.agg #[v8, v9, v10, v11]) w := by kernel_rfl
theorem part_3 (v0 v1 v2 v3 v4 v5 v6 v7 v8 v9 v10 v11 v12 v13 v14 v15 : Value) (w : World) : (Instr.index 37 (.agg #[v0, v1, v2, v3, v4, v5, v6, v7, v8, v9, v10, v11, v12, v13, v14, v15]) (.int .i64 3)).run Try.prog w = .ok (.agg #[v12, v13, v14, v15]) w := by kernel_rfl

set_option maxHeartbeats 4000000 in
theorem less_many (x y a b x2 y2 a2 b2 : Int) (w : World) (hx : I64 x) (hy : I64 y) (ha : I64 a) (hb : I64 b) (hx2 : I64 x2) (hy2 : I64 y2) (ha2 : I64 a2) (hb2 : I64 b2) (g1 : anyB x y a b = true)
    (mx my ma mb : Int) (hm : meetR ⟨x, y, a, b⟩ ⟨x2, y2, a2, b2⟩ = ⟨mx, my, ma, mb⟩) (g2 : anyB mx my ma mb = true) :
    Calls Try.prog 19 #[.agg #[.int .i64 x, .int .i64 y, .int .i64 a, .int .i64 b], .agg #[.int .i64 x2, .int .i64 y2, .int .i64 a2, .int .i64 b2]] w (Gives (isRects (lessR ⟨x, y, a, b⟩ ⟨x2, y2, a2, b2⟩)) w) := by
  have e1 : (!anyB x y a b) = false := by rw [g1]; rfl
  have e2 : (!anyB mx my ma mb) = false := by rw [g2]; rfl
  have hl : lessR ⟨x, y, a, b⟩ ⟨x2, y2, a2, b2⟩ = kept (aroundR ⟨x, y, a, b⟩ ⟨mx, my, ma, mb⟩) 4 := by unfold lessR kept; rw [hm]; unfold Rc.any; simp only [g1, g2, if_true]; rfl
  obtain ⟨mi, _⟩ := meet_in hm
  have ai := anyB_in g1
  have bi := anyB_in g2
  obtain ⟨c1, c2⟩ := meet_inside hm g2
  have HM := Lib.hid hm
  rw [hl]
  clear hl hm
  obtain ⟨i0, hi, hz0, hz1, hz2⟩ := info_parts rect_info
  obtain ⟨ps, hps⟩ : ∃ ps, aroundR ⟨x, y, a, b⟩ ⟨mx, my, ma, mb⟩ = ps := ⟨_, rfl⟩
  have HP := Lib.hid hps
  rw [hps]
  clear hps
  have t0 := part_0
  have t1 := part_1
  have t2 := part_2
  have t3 := part_3
  go_enter Try.func19, Try.ntmps19
  go_wp2_with fail
  first | refine settle_wp (fun wS => AnyLater w wS ∧ wS.heap[w.heap.size]? = some (.cells #[.int .i64 x, .int .i64 y, .int .i64 a, .int .i64 b] 23) ∧ wS.heap[w.heap.size + 1]? = some (.cells #[.int .i64 x2, .int .i64 y2, .int .i64 a2, .int .i64 b2] 23)) ?_ ?_ | refine settle_calls (fun wS => AnyLater w wS ∧ wS.heap[w.heap.size]? = some (.cells #[.int .i64 x, .int .i64 y, .int .i64 a, .int .i64 b] 23) ∧ wS.heap[w.heap.size + 1]? = some (.cells #[.int .i64 x2, .int .i64 y2, .int .i64 a2, .int .i64 b2] 23)) ?_ ?_
  · refine ⟨?_, ?_, ?_⟩
    · repeat' (first | with_reducible assumption | with_reducible exact AnyLater.refl _ | with_reducible apply AnyLater.setCell | with_reducible apply AnyLater.later | with_reducible apply AnyLater.drewN | with_reducible apply AnyLater.drew | with_reducible apply AnyLater.alloc | ((try simp only [World.size_alloc, World.size_setCell, World.size_drew]); (try dsimp only); omega))
    · ((repeat (first | with_reducible assumption | ((with_reducible apply heap_new); (try simp only [World.size_alloc, World.size_setCell, World.size_drew, World.heap_drewN]); done) | ((with_reducible apply heap_new); (try simp only [World.size_alloc, World.size_setCell, World.size_drew, World.heap_drewN]); omega) | (with_reducible refine heap_old (by (try simp only [World.size_alloc, World.size_setCell, World.size_drew, World.heap_drewN]); omega) ?_) | (with_reducible refine heap_drew ?_) | (with_reducible refine heap_far (by omega) ?_) | (with_reducible apply heap_at))); all_goals rfl)
    · ((repeat (first | with_reducible assumption | ((with_reducible apply heap_new); (try simp only [World.size_alloc, World.size_setCell, World.size_drew, World.heap_drewN]); done) | ((with_reducible apply heap_new); (try simp only [World.size_alloc, World.size_setCell, World.size_drew, World.heap_drewN]); omega) | (with_reducible refine heap_old (by (try simp only [World.size_alloc, World.size_setCell, World.size_drew, World.heap_drewN]); omega) ?_) | (with_reducible refine heap_drew ?_) | (with_reducible refine heap_far (by omega) ?_) | (with_reducible apply heap_at))); all_goals rfl)
  rintro w1 ⟨b_w1, s0_w1, s1_w1⟩
  have a_w1 := b_w1
  have r0_w1 := own_row s0_w1
  have f0_w1 := own_free s0_w1
  have l0_w1 := own_lt s0_w1
  have r1_w1 := own_row s1_w1
  have f1_w1 := own_free s1_w1
  have l1_w1 := own_lt s1_w1
  have z_w1 := b_w1.below.size
  refine (empty_any _ _ _ _ _ _ e1 (by omega) (by omega) (by omega) (by omega)).mono ?_
  rintro e w2 ⟨rfl, b_w2⟩
  have z_w2 := b_w2.below.size
  have a_w2 := a_w1.trans b_w2
  have s0_w2 := any_own b_w2 s0_w1
  have s1_w2 := any_own b_w2 s1_w1
  have r0_w2 := own_row s0_w2
  have f0_w2 := own_free s0_w2
  have l0_w2 := own_lt s0_w2
  have r1_w2 := own_row s1_w2
  have f1_w2 := own_free s1_w2
  have l1_w2 := own_lt s1_w2
  (try clear r0_w1); (try clear f0_w1)
  (try clear r1_w1); (try clear f1_w1)
  go_wp2_with fail
  refine (meet_at _ _ _ _ _ _ _ _ _ hx hy ha hb hx2 hy2 ha2 hb2 _ _ _ _ HM.out).mono ?_
  rintro e w3 ⟨rfl, b_w3⟩
  have z_w3 := b_w3.below.size
  have a_w3 := a_w2.trans b_w3
  have s0_w3 := any_own b_w3 s0_w2
  have s1_w3 := any_own b_w3 s1_w2
  have r0_w3 := own_row s0_w3
  have f0_w3 := own_free s0_w3
  have l0_w3 := own_lt s0_w3
  have r1_w3 := own_row s1_w3
  have f1_w3 := own_free s1_w3
  have l1_w3 := own_lt s1_w3
  (try clear r0_w2); (try clear f0_w2)
  (try clear r1_w2); (try clear f1_w2)
  go_wp2_with fail
  first | refine settle_wp (fun wS => AnyLater w3 wS ∧ wS.heap[w3.heap.size]? = some (.cells #[.int .i64 mx, .int .i64 my, .int .i64 ma, .int .i64 mb] 23)) ?_ ?_ | refine settle_calls (fun wS => AnyLater w3 wS ∧ wS.heap[w3.heap.size]? = some (.cells #[.int .i64 mx, .int .i64 my, .int .i64 ma, .int .i64 mb] 23)) ?_ ?_
  · refine ⟨?_, ?_⟩
    · repeat' (first | with_reducible assumption | with_reducible exact AnyLater.refl _ | with_reducible apply AnyLater.setCell | with_reducible apply AnyLater.later | with_reducible apply AnyLater.drewN | with_reducible apply AnyLater.drew | with_reducible apply AnyLater.alloc | ((try simp only [World.size_alloc, World.size_setCell, World.size_drew]); (try dsimp only); omega))
    · ((repeat (first | with_reducible assumption | ((with_reducible apply heap_new); (try simp only [World.size_alloc, World.size_setCell, World.size_drew, World.heap_drewN]); done) | ((with_reducible apply heap_new); (try simp only [World.size_alloc, World.size_setCell, World.size_drew, World.heap_drewN]); omega) | (with_reducible refine heap_old (by (try simp only [World.size_alloc, World.size_setCell, World.size_drew, World.heap_drewN]); omega) ?_) | (with_reducible refine heap_drew ?_) | (with_reducible refine heap_far (by omega) ?_) | (with_reducible apply heap_at))); all_goals rfl)
  rintro w4 ⟨b_w4, s2_w4⟩
  have a_w4 := a_w3.trans b_w4
  have s0_w4 := any_own b_w4 s0_w3
  have s1_w4 := any_own b_w4 s1_w3
  have r0_w4 := own_row s0_w4
  have f0_w4 := own_free s0_w4
  have l0_w4 := own_lt s0_w4
  have r1_w4 := own_row s1_w4
  have f1_w4 := own_free s1_w4
  have l1_w4 := own_lt s1_w4
  (try clear r0_w3); (try clear f0_w3)
  (try clear r1_w3); (try clear f1_w3)
  have r2_w4 := own_row s2_w4
  have f2_w4 := own_free s2_w4
  have l2_w4 := own_lt s2_w4
  have z_w4 := b_w4.below.size
  refine (empty_any _ _ _ _ _ _ e2 (by omega) (by omega) (by omega) (by omega)).mono ?_
  rintro e w5 ⟨rfl, b_w5⟩
  have z_w5 := b_w5.below.size
  have a_w5 := a_w4.trans b_w5
  have s0_w5 := any_own b_w5 s0_w4
  have s1_w5 := any_own b_w5 s1_w4
  have s2_w5 := any_own b_w5 s2_w4
  have r0_w5 := own_row s0_w5
  have f0_w5 := own_free s0_w5
  have l0_w5 := own_lt s0_w5
  have r1_w5 := own_row s1_w5
  have f1_w5 := own_free s1_w5
  have l1_w5 := own_lt s1_w5
  have r2_w5 := own_row s2_w5
  have f2_w5 := own_free s2_w5
  have l2_w5 := own_lt s2_w5
  (try clear r0_w4); (try clear f0_w4)
  (try clear r1_w4); (try clear f1_w4)
  (try clear r2_w4); (try clear f2_w4)
  go_wp2_with fail
  refine (around_any _ _ _ _ _ _ _ _ _ (by omega) (by omega)).mono ?_
  rintro e w6 ⟨rfl, b_w6⟩
  have z_w6 := b_w6.below.size
  have a_w6 := a_w5.trans b_w6
  have s0_w6 := any_own b_w6 s0_w5
  have s1_w6 := any_own b_w6 s1_w5
  have s2_w6 := any_own b_w6 s2_w5
  have r0_w6 := own_row s0_w6
  have f0_w6 := own_free s0_w6
  have l0_w6 := own_lt s0_w6
  have r1_w6 := own_row s1_w6
  have f1_w6 := own_free s1_w6
  have l1_w6 := own_lt s1_w6
  have r2_w6 := own_row s2_w6
  have f2_w6 := own_free s2_w6
  have l2_w6 := own_lt s2_w6
  (try clear r0_w5); (try clear f0_w5)
  (try clear r1_w5); (try clear f1_w5)
  (try clear r2_w5); (try clear f2_w5)
  go_wp2_with fail
  go_loopw [6, 21] (fun v i wr => ∃ k : Nat, k ≤ 4 ∧ i = .int .i64 k ∧ wr.ownsRow w.heap.size 23 4 v (kept ps k).length (rcs (kept ps k)) ∧ AnyLater w wr) (fun _ i _ => 4 - (intOf i).toNat)
  case atStart => exact ⟨0, by omega, rfl, ⟨rfl, .inl ⟨rfl, rfl⟩⟩, a_w6⟩
  case round =>
    obtain ⟨k, hk, rfl, hown, a_wr⟩ := hrel
    have HO := Lib.hid hown
    clear hown
    by_cases hlt : k < 4
    · rcases (by omega : k = 0 ∨ k = 1 ∨ k = 2 ∨ k = 3) with rfl | rfl | rfl | rfl
      · obtain ⟨r, hr⟩ : ∃ r : Rc, r = ⟨x, y, a, my - y⟩ := ⟨_, rfl⟩
        have hq : ps[0]? = some ⟨x, y, a, my - y⟩ := by rw [← HP.out]; rfl
        have HQ := Lib.hid hq
        clear hr hq
        rcases g3 : anyB x y a (my - y)
        · have e3 : (!anyB x y a (my - y)) = true := by rw [g3]; rfl
          have HK := Lib.hid (kept_off HQ.out (show Rc.any _ = false from g3))
          go_wp2_with fail
          first | refine settle_wp (fun wS => AnyLater wr wS ∧ wS.heap[wr.heap.size]? = some (.cells #[.int .i64 x, .int .i64 y, .int .i64 a, .int .i64 (my - y)] 23)) ?_ ?_ | refine settle_calls (fun wS => AnyLater wr wS ∧ wS.heap[wr.heap.size]? = some (.cells #[.int .i64 x, .int .i64 y, .int .i64 a, .int .i64 (my - y)] 23)) ?_ ?_
          · refine ⟨?_, ?_⟩
            · repeat' (first | with_reducible assumption | with_reducible exact AnyLater.refl _ | with_reducible apply AnyLater.setCell | with_reducible apply AnyLater.later | with_reducible apply AnyLater.drewN | with_reducible apply AnyLater.drew | with_reducible apply AnyLater.alloc | ((try simp only [World.size_alloc, World.size_setCell, World.size_drew]); (try dsimp only); omega))
            · ((repeat (first | with_reducible assumption | ((with_reducible apply heap_new); (try simp only [World.size_alloc, World.size_setCell, World.size_drew, World.heap_drewN]); done) | ((with_reducible apply heap_new); (try simp only [World.size_alloc, World.size_setCell, World.size_drew, World.heap_drewN]); omega) | (with_reducible refine heap_old (by (try simp only [World.size_alloc, World.size_setCell, World.size_drew, World.heap_drewN]); omega) ?_) | (with_reducible refine heap_drew ?_) | (with_reducible refine heap_far (by omega) ?_) | (with_reducible apply heap_at))); all_goals rfl)
          rintro w7 ⟨b_w7, s0_w7⟩
          have a_w7 := a_wr.trans b_w7
          have r0_w7 := own_row s0_w7
          have f0_w7 := own_free s0_w7
          have l0_w7 := own_lt s0_w7
          have z_w7 := b_w7.below.size
          refine (empty_any _ _ _ _ _ _ e3 (by omega) (by omega) (by omega) (by omega)).mono ?_
          rintro e w8 ⟨rfl, b_w8⟩
          have z_w8 := b_w8.below.size
          have a_w8 := a_w7.trans b_w8
          have s0_w8 := any_own b_w8 s0_w7
          have r0_w8 := own_row s0_w8
          have f0_w8 := own_free s0_w8
          have l0_w8 := own_lt s0_w8
          (try clear r0_w7); (try clear f0_w7)
          go_wp2
          go_roundw
          case rel => exact ⟨1, by omega, rfl, by rw [HK.out]; exact own_later HO.out (b_w7.trans b_w8), a_w8⟩
          case measure => simp [intOf]
        · have e3 : (!anyB x y a (my - y)) = false := by rw [g3]; rfl
          have HK := Lib.hid (kept_on HQ.out (show Rc.any _ = true from g3))
          have hle := kept_le ps 0
          go_wp2_with fail
          first | refine settle_wp (fun wS => AnyLater wr wS ∧ wS.heap[wr.heap.size]? = some (.cells #[.int .i64 x, .int .i64 y, .int .i64 a, .int .i64 (my - y)] 23)) ?_ ?_ | refine settle_calls (fun wS => AnyLater wr wS ∧ wS.heap[wr.heap.size]? = some (.cells #[.int .i64 x, .int .i64 y, .int .i64 a, .int .i64 (my - y)] 23)) ?_ ?_
          · refine ⟨?_, ?_⟩
            · repeat' (first | with_reducible assumption | with_reducible exact AnyLater.refl _ | with_reducible apply AnyLater.setCell | with_reducible apply AnyLater.later | with_reducible apply AnyLater.drewN | with_reducible apply AnyLater.drew | with_reducible apply AnyLater.alloc | ((try simp only [World.size_alloc, World.size_setCell, World.size_drew]); (try dsimp only); omega))
            · ((repeat (first | with_reducible assumption | ((with_reducible apply heap_new); (try simp only [World.size_alloc, World.size_setCell, World.size_drew, World.heap_drewN]); done) | ((with_reducible apply heap_new); (try simp only [World.size_alloc, World.size_setCell, World.size_drew, World.heap_drewN]); omega) | (with_reducible refine heap_old (by (try simp only [World.size_alloc, World.size_setCell, World.size_drew, World.heap_drewN]); omega) ?_) | (with_reducible refine heap_drew ?_) | (with_reducible refine heap_far (by omega) ?_) | (with_reducible apply heap_at))); all_goals rfl)
          rintro w7 ⟨b_w7, s0_w7⟩
          have a_w7 := a_wr.trans b_w7
          have r0_w7 := own_row s0_w7
          have f0_w7 := own_free s0_w7
          have l0_w7 := own_lt s0_w7
          have z_w7 := b_w7.below.size
          refine (empty_any _ _ _ _ _ _ e3 (by omega) (by omega) (by omega) (by omega)).mono ?_
          rintro e w8 ⟨rfl, b_w8⟩
          have z_w8 := b_w8.below.size
          have a_w8 := a_w7.trans b_w8
          have s0_w8 := any_own b_w8 s0_w7
          have r0_w8 := own_row s0_w8
          have f0_w8 := own_free s0_w8
          have l0_w8 := own_lt s0_w8
          (try clear r0_w7); (try clear f0_w7)
          have ho8 := Lib.hid (own_later HO.out (b_w7.trans b_w8))
          go_wp2_with (at_builtin; refine wpList_append_own _ rfl _ _ 31 rfl w.heap.size 23 i0 _ 4 32 Try.underlying31 hi hz0 hz1 hz2 rfl (by decide) _ _ _ rfl (ho8.out.alloc _) ⟨w8.heap.size, 0, none⟩ 1 1 [.int .i64 x, .int .i64 y, .int .i64 a, .int .i64 (my - y)] rfl rfl ?c1 ?c2 ?c3 ?c4 ?c5 ?_; rotate_left 5; intro v' w9 hown' hgrow hnil)
          case c1 => exact news_at _ _ _
          case c2 => intro u hu; simp only [List.mem_cons, List.not_mem_nil, or_false] at hu; rcases hu with rfl | rfl | rfl | rfl <;> rfl
          case c3 => unfold maxLen; omega
          case c4 => omega
          case c5 => simp only [World.size_alloc]; have := a_w8.below.size; omega
          refine ⟨⟨1, by omega, rfl, ?_, AnyLater.grown (a_w8.alloc _) (ho8.out.alloc _) (Nat.le_refl _) hgrow⟩, by simp [intOf]⟩
          rw [HK.out, List.length_append, rcs_snoc]
          exact hown'
      · obtain ⟨r, hr⟩ : ∃ r : Rc, r = ⟨x, my, mx - x, mb⟩ := ⟨_, rfl⟩
        have hq : ps[1]? = some ⟨x, my, mx - x, mb⟩ := by rw [← HP.out]; rfl
        have HQ := Lib.hid hq
        clear hr hq
        rcases g3 : anyB x my (mx - x) mb
        · have e3 : (!anyB x my (mx - x) mb) = true := by rw [g3]; rfl
          have HK := Lib.hid (kept_off HQ.out (show Rc.any _ = false from g3))
          go_wp2_with fail
          first | refine settle_wp (fun wS => AnyLater wr wS ∧ wS.heap[wr.heap.size]? = some (.cells #[.int .i64 x, .int .i64 my, .int .i64 (mx - x), .int .i64 mb] 23)) ?_ ?_ | refine settle_calls (fun wS => AnyLater wr wS ∧ wS.heap[wr.heap.size]? = some (.cells #[.int .i64 x, .int .i64 my, .int .i64 (mx - x), .int .i64 mb] 23)) ?_ ?_
          · refine ⟨?_, ?_⟩
            · repeat' (first | with_reducible assumption | with_reducible exact AnyLater.refl _ | with_reducible apply AnyLater.setCell | with_reducible apply AnyLater.later | with_reducible apply AnyLater.drewN | with_reducible apply AnyLater.drew | with_reducible apply AnyLater.alloc | ((try simp only [World.size_alloc, World.size_setCell, World.size_drew]); (try dsimp only); omega))
            · ((repeat (first | with_reducible assumption | ((with_reducible apply heap_new); (try simp only [World.size_alloc, World.size_setCell, World.size_drew, World.heap_drewN]); done) | ((with_reducible apply heap_new); (try simp only [World.size_alloc, World.size_setCell, World.size_drew, World.heap_drewN]); omega) | (with_reducible refine heap_old (by (try simp only [World.size_alloc, World.size_setCell, World.size_drew, World.heap_drewN]); omega) ?_) | (with_reducible refine heap_drew ?_) | (with_reducible refine heap_far (by omega) ?_) | (with_reducible apply heap_at))); all_goals rfl)
          rintro w7 ⟨b_w7, s0_w7⟩
          have a_w7 := a_wr.trans b_w7
          have r0_w7 := own_row s0_w7
          have f0_w7 := own_free s0_w7
          have l0_w7 := own_lt s0_w7
          have z_w7 := b_w7.below.size
          refine (empty_any _ _ _ _ _ _ e3 (by omega) (by omega) (by omega) (by omega)).mono ?_
          rintro e w8 ⟨rfl, b_w8⟩
          have z_w8 := b_w8.below.size
          have a_w8 := a_w7.trans b_w8
          have s0_w8 := any_own b_w8 s0_w7
          have r0_w8 := own_row s0_w8
          have f0_w8 := own_free s0_w8
          have l0_w8 := own_lt s0_w8
          (try clear r0_w7); (try clear f0_w7)
          go_wp2
          go_roundw
          case rel => exact ⟨2, by omega, rfl, by rw [HK.out]; exact own_later HO.out (b_w7.trans b_w8), a_w8⟩
          case measure => simp [intOf]
        · have e3 : (!anyB x my (mx - x) mb) = false := by rw [g3]; rfl
          have HK := Lib.hid (kept_on HQ.out (show Rc.any _ = true from g3))
          have hle := kept_le ps 1
          go_wp2_with fail
          first | refine settle_wp (fun wS => AnyLater wr wS ∧ wS.heap[wr.heap.size]? = some (.cells #[.int .i64 x, .int .i64 my, .int .i64 (mx - x), .int .i64 mb] 23)) ?_ ?_ | refine settle_calls (fun wS => AnyLater wr wS ∧ wS.heap[wr.heap.size]? = some (.cells #[.int .i64 x, .int .i64 my, .int .i64 (mx - x), .int .i64 mb] 23)) ?_ ?_
          · refine ⟨?_, ?_⟩
            · repeat' (first | with_reducible assumption | with_reducible exact AnyLater.refl _ | with_reducible apply AnyLater.setCell | with_reducible apply AnyLater.later | with_reducible apply AnyLater.drewN | with_reducible apply AnyLater.drew | with_reducible apply AnyLater.alloc | ((try simp only [World.size_alloc, World.size_setCell, World.size_drew]); (try dsimp only); omega))
            · ((repeat (first | with_reducible assumption | ((with_reducible apply heap_new); (try simp only [World.size_alloc, World.size_setCell, World.size_drew, World.heap_drewN]); done) | ((with_reducible apply heap_new); (try simp only [World.size_alloc, World.size_setCell, World.size_drew, World.heap_drewN]); omega) | (with_reducible refine heap_old (by (try simp only [World.size_alloc, World.size_setCell, World.size_drew, World.heap_drewN]); omega) ?_) | (with_reducible refine heap_drew ?_) | (with_reducible refine heap_far (by omega) ?_) | (with_reducible apply heap_at))); all_goals rfl)
          rintro w7 ⟨b_w7, s0_w7⟩
          have a_w7 := a_wr.trans b_w7
          have r0_w7 := own_row s0_w7
          have f0_w7 := own_free s0_w7
          have l0_w7 := own_lt s0_w7
          have z_w7 := b_w7.below.size
          refine (empty_any _ _ _ _ _ _ e3 (by omega) (by omega) (by omega) (by omega)).mono ?_
          rintro e w8 ⟨rfl, b_w8⟩
          have z_w8 := b_w8.below.size
          have a_w8 := a_w7.trans b_w8
          have s0_w8 := any_own b_w8 s0_w7
          have r0_w8 := own_row s0_w8
          have f0_w8 := own_free s0_w8
          have l0_w8 := own_lt s0_w8
          (try clear r0_w7); (try clear f0_w7)
          have ho8 := Lib.hid (own_later HO.out (b_w7.trans b_w8))
          go_wp2_with (at_builtin; refine wpList_append_own _ rfl _ _ 31 rfl w.heap.size 23 i0 _ 4 32 Try.underlying31 hi hz0 hz1 hz2 rfl (by decide) _ _ _ rfl (ho8.out.alloc _) ⟨w8.heap.size, 0, none⟩ 1 1 [.int .i64 x, .int .i64 my, .int .i64 (mx - x), .int .i64 mb] rfl rfl ?c1 ?c2 ?c3 ?c4 ?c5 ?_; rotate_left 5; intro v' w9 hown' hgrow hnil)
          case c1 => exact news_at _ _ _
          case c2 => intro u hu; simp only [List.mem_cons, List.not_mem_nil, or_false] at hu; rcases hu with rfl | rfl | rfl | rfl <;> rfl
          case c3 => unfold maxLen; omega
          case c4 => omega
          case c5 => simp only [World.size_alloc]; have := a_w8.below.size; omega
          refine ⟨⟨2, by omega, rfl, ?_, AnyLater.grown (a_w8.alloc _) (ho8.out.alloc _) (Nat.le_refl _) hgrow⟩, by simp [intOf]⟩
          rw [HK.out, List.length_append, rcs_snoc]
          exact hown'
      · obtain ⟨r, hr⟩ : ∃ r : Rc, r = ⟨mx + ma, my, x + a - mx - ma, mb⟩ := ⟨_, rfl⟩
        have hq : ps[2]? = some ⟨mx + ma, my, x + a - mx - ma, mb⟩ := by rw [← HP.out]; rfl
        have HQ := Lib.hid hq
        clear hr hq
        rcases g3 : anyB (mx + ma) my (x + a - mx - ma) mb
        · have e3 : (!anyB (mx + ma) my (x + a - mx - ma) mb) = true := by rw [g3]; rfl
          have HK := Lib.hid (kept_off HQ.out (show Rc.any _ = false from g3))
          go_wp2_with fail
          first | refine settle_wp (fun wS => AnyLater wr wS ∧ wS.heap[wr.heap.size]? = some (.cells #[.int .i64 (mx + ma), .int .i64 my, .int .i64 (x + a - mx - ma), .int .i64 mb] 23)) ?_ ?_ | refine settle_calls (fun wS => AnyLater wr wS ∧ wS.heap[wr.heap.size]? = some (.cells #[.int .i64 (mx + ma), .int .i64 my, .int .i64 (x + a - mx - ma), .int .i64 mb] 23)) ?_ ?_
          · refine ⟨?_, ?_⟩
            · repeat' (first | with_reducible assumption | with_reducible exact AnyLater.refl _ | with_reducible apply AnyLater.setCell | with_reducible apply AnyLater.later | with_reducible apply AnyLater.drewN | with_reducible apply AnyLater.drew | with_reducible apply AnyLater.alloc | ((try simp only [World.size_alloc, World.size_setCell, World.size_drew]); (try dsimp only); omega))
            · ((repeat (first | with_reducible assumption | ((with_reducible apply heap_new); (try simp only [World.size_alloc, World.size_setCell, World.size_drew, World.heap_drewN]); done) | ((with_reducible apply heap_new); (try simp only [World.size_alloc, World.size_setCell, World.size_drew, World.heap_drewN]); omega) | (with_reducible refine heap_old (by (try simp only [World.size_alloc, World.size_setCell, World.size_drew, World.heap_drewN]); omega) ?_) | (with_reducible refine heap_drew ?_) | (with_reducible refine heap_far (by omega) ?_) | (with_reducible apply heap_at))); all_goals rfl)
          rintro w7 ⟨b_w7, s0_w7⟩
          have a_w7 := a_wr.trans b_w7
          have r0_w7 := own_row s0_w7
          have f0_w7 := own_free s0_w7
          have l0_w7 := own_lt s0_w7
          have z_w7 := b_w7.below.size
          refine (empty_any _ _ _ _ _ _ e3 (by omega) (by omega) (by omega) (by omega)).mono ?_
          rintro e w8 ⟨rfl, b_w8⟩
          have z_w8 := b_w8.below.size
          have a_w8 := a_w7.trans b_w8
          have s0_w8 := any_own b_w8 s0_w7
          have r0_w8 := own_row s0_w8
          have f0_w8 := own_free s0_w8
          have l0_w8 := own_lt s0_w8
          (try clear r0_w7); (try clear f0_w7)
          go_wp2
          go_roundw
          case rel => exact ⟨3, by omega, rfl, by rw [HK.out]; exact own_later HO.out (b_w7.trans b_w8), a_w8⟩
          case measure => simp [intOf]
        · have e3 : (!anyB (mx + ma) my (x + a - mx - ma) mb) = false := by rw [g3]; rfl
          have HK := Lib.hid (kept_on HQ.out (show Rc.any _ = true from g3))
          have hle := kept_le ps 2
          go_wp2_with fail
          first | refine settle_wp (fun wS => AnyLater wr wS ∧ wS.heap[wr.heap.size]? = some (.cells #[.int .i64 (mx + ma), .int .i64 my, .int .i64 (x + a - mx - ma), .int .i64 mb] 23)) ?_ ?_ | refine settle_calls (fun wS => AnyLater wr wS ∧ wS.heap[wr.heap.size]? = some (.cells #[.int .i64 (mx + ma), .int .i64 my, .int .i64 (x + a - mx - ma), .int .i64 mb] 23)) ?_ ?_
          · refine ⟨?_, ?_⟩
            · repeat' (first | with_reducible assumption | with_reducible exact AnyLater.refl _ | with_reducible apply AnyLater.setCell | with_reducible apply AnyLater.later | with_reducible apply AnyLater.drewN | with_reducible apply AnyLater.drew | with_reducible apply AnyLater.alloc | ((try simp only [World.size_alloc, World.size_setCell, World.size_drew]); (try dsimp only); omega))
            · ((repeat (first | with_reducible assumption | ((with_reducible apply heap_new); (try simp only [World.size_alloc, World.size_setCell, World.size_drew, World.heap_drewN]); done) | ((with_reducible apply heap_new); (try simp only [World.size_alloc, World.size_setCell, World.size_drew, World.heap_drewN]); omega) | (with_reducible refine heap_old (by (try simp only [World.size_alloc, World.size_setCell, World.size_drew, World.heap_drewN]); omega) ?_) | (with_reducible refine heap_drew ?_) | (with_reducible refine heap_far (by omega) ?_) | (with_reducible apply heap_at))); all_goals rfl)
          rintro w7 ⟨b_w7, s0_w7⟩
          have a_w7 := a_wr.trans b_w7
          have r0_w7 := own_row s0_w7
          have f0_w7 := own_free s0_w7
          have l0_w7 := own_lt s0_w7
          have z_w7 := b_w7.below.size
          refine (empty_any _ _ _ _ _ _ e3 (by omega) (by omega) (by omega) (by omega)).mono ?_
          rintro e w8 ⟨rfl, b_w8⟩
          have z_w8 := b_w8.below.size
          have a_w8 := a_w7.trans b_w8
          have s0_w8 := any_own b_w8 s0_w7
          have r0_w8 := own_row s0_w8
          have f0_w8 := own_free s0_w8
          have l0_w8 := own_lt s0_w8
          (try clear r0_w7); (try clear f0_w7)
          have ho8 := Lib.hid (own_later HO.out (b_w7.trans b_w8))
          go_wp2_with (at_builtin; refine wpList_append_own _ rfl _ _ 31 rfl w.heap.size 23 i0 _ 4 32 Try.underlying31 hi hz0 hz1 hz2 rfl (by decide) _ _ _ rfl (ho8.out.alloc _) ⟨w8.heap.size, 0, none⟩ 1 1 [.int .i64 (mx + ma), .int .i64 my, .int .i64 (x + a - mx - ma), .int .i64 mb] rfl rfl ?c1 ?c2 ?c3 ?c4 ?c5 ?_; rotate_left 5; intro v' w9 hown' hgrow hnil)
          case c1 => exact news_at _ _ _
          case c2 => intro u hu; simp only [List.mem_cons, List.not_mem_nil, or_false] at hu; rcases hu with rfl | rfl | rfl | rfl <;> rfl
          case c3 => unfold maxLen; omega
          case c4 => omega
          case c5 => simp only [World.size_alloc]; have := a_w8.below.size; omega
          refine ⟨⟨3, by omega, rfl, ?_, AnyLater.grown (a_w8.alloc _) (ho8.out.alloc _) (Nat.le_refl _) hgrow⟩, by simp [intOf]⟩
          rw [HK.out, List.length_append, rcs_snoc]
          exact hown'
      · obtain ⟨r, hr⟩ : ∃ r : Rc, r = ⟨x, my + mb, a, y + b - my - mb⟩ := ⟨_, rfl⟩
        have hq : ps[3]? = some ⟨x, my + mb, a, y + b - my - mb⟩ := by rw [← HP.out]; rfl
        have HQ := Lib.hid hq
        clear hr hq
        rcases g3 : anyB x (my + mb) a (y + b - my - mb)
        · have e3 : (!anyB x (my + mb) a (y + b - my - mb)) = true := by rw [g3]; rfl
          have HK := Lib.hid (kept_off HQ.out (show Rc.any _ = false from g3))
          go_wp2_with fail
          first | refine settle_wp (fun wS => AnyLater wr wS ∧ wS.heap[wr.heap.size]? = some (.cells #[.int .i64 x, .int .i64 (my + mb), .int .i64 a, .int .i64 (y + b - my - mb)] 23)) ?_ ?_ | refine settle_calls (fun wS => AnyLater wr wS ∧ wS.heap[wr.heap.size]? = some (.cells #[.int .i64 x, .int .i64 (my + mb), .int .i64 a, .int .i64 (y + b - my - mb)] 23)) ?_ ?_
          · refine ⟨?_, ?_⟩
            · repeat' (first | with_reducible assumption | with_reducible exact AnyLater.refl _ | with_reducible apply AnyLater.setCell | with_reducible apply AnyLater.later | with_reducible apply AnyLater.drewN | with_reducible apply AnyLater.drew | with_reducible apply AnyLater.alloc | ((try simp only [World.size_alloc, World.size_setCell, World.size_drew]); (try dsimp only); omega))
            · ((repeat (first | with_reducible assumption | ((with_reducible apply heap_new); (try simp only [World.size_alloc, World.size_setCell, World.size_drew, World.heap_drewN]); done) | ((with_reducible apply heap_new); (try simp only [World.size_alloc, World.size_setCell, World.size_drew, World.heap_drewN]); omega) | (with_reducible refine heap_old (by (try simp only [World.size_alloc, World.size_setCell, World.size_drew, World.heap_drewN]); omega) ?_) | (with_reducible refine heap_drew ?_) | (with_reducible refine heap_far (by omega) ?_) | (with_reducible apply heap_at))); all_goals rfl)
          rintro w7 ⟨b_w7, s0_w7⟩
          have a_w7 := a_wr.trans b_w7
          have r0_w7 := own_row s0_w7
          have f0_w7 := own_free s0_w7
          have l0_w7 := own_lt s0_w7
          have z_w7 := b_w7.below.size
          refine (empty_any _ _ _ _ _ _ e3 (by omega) (by omega) (by omega) (by omega)).mono ?_
          rintro e w8 ⟨rfl, b_w8⟩
          have z_w8 := b_w8.below.size
          have a_w8 := a_w7.trans b_w8
          have s0_w8 := any_own b_w8 s0_w7
          have r0_w8 := own_row s0_w8
          have f0_w8 := own_free s0_w8
          have l0_w8 := own_lt s0_w8
          (try clear r0_w7); (try clear f0_w7)
          go_wp2
          go_roundw
          case rel => exact ⟨4, by omega, rfl, by rw [HK.out]; exact own_later HO.out (b_w7.trans b_w8), a_w8⟩
          case measure => simp [intOf]
        · have e3 : (!anyB x (my + mb) a (y + b - my - mb)) = false := by rw [g3]; rfl
          have HK := Lib.hid (kept_on HQ.out (show Rc.any _ = true from g3))
          have hle := kept_le ps 3
          go_wp2_with fail
          first | refine settle_wp (fun wS => AnyLater wr wS ∧ wS.heap[wr.heap.size]? = some (.cells #[.int .i64 x, .int .i64 (my + mb), .int .i64 a, .int .i64 (y + b - my - mb)] 23)) ?_ ?_ | refine settle_calls (fun wS => AnyLater wr wS ∧ wS.heap[wr.heap.size]? = some (.cells #[.int .i64 x, .int .i64 (my + mb), .int .i64 a, .int .i64 (y + b - my - mb)] 23)) ?_ ?_
          · refine ⟨?_, ?_⟩
            · repeat' (first | with_reducible assumption | with_reducible exact AnyLater.refl _ | with_reducible apply AnyLater.setCell | with_reducible apply AnyLater.later | with_reducible apply AnyLater.drewN | with_reducible apply AnyLater.drew | with_reducible apply AnyLater.alloc | ((try simp only [World.size_alloc, World.size_setCell, World.size_drew]); (try dsimp only); omega))
            · ((repeat (first | with_reducible assumption | ((with_reducible apply heap_new); (try simp only [World.size_alloc, World.size_setCell, World.size_drew, World.heap_drewN]); done) | ((with_reducible apply heap_new); (try simp only [World.size_alloc, World.size_setCell, World.size_drew, World.heap_drewN]); omega) | (with_reducible refine heap_old (by (try simp only [World.size_alloc, World.size_setCell, World.size_drew, World.heap_drewN]); omega) ?_) | (with_reducible refine heap_drew ?_) | (with_reducible refine heap_far (by omega) ?_) | (with_reducible apply heap_at))); all_goals rfl)
          rintro w7 ⟨b_w7, s0_w7⟩
          have a_w7 := a_wr.trans b_w7
          have r0_w7 := own_row s0_w7
          have f0_w7 := own_free s0_w7
          have l0_w7 := own_lt s0_w7
          have z_w7 := b_w7.below.size
          refine (empty_any _ _ _ _ _ _ e3 (by omega) (by omega) (by omega) (by omega)).mono ?_
          rintro e w8 ⟨rfl, b_w8⟩
          have z_w8 := b_w8.below.size
          have a_w8 := a_w7.trans b_w8
          have s0_w8 := any_own b_w8 s0_w7
          have r0_w8 := own_row s0_w8
          have f0_w8 := own_free s0_w8
          have l0_w8 := own_lt s0_w8
          (try clear r0_w7); (try clear f0_w7)
          have ho8 := Lib.hid (own_later HO.out (b_w7.trans b_w8))
          go_wp2_with (at_builtin; refine wpList_append_own _ rfl _ _ 31 rfl w.heap.size 23 i0 _ 4 32 Try.underlying31 hi hz0 hz1 hz2 rfl (by decide) _ _ _ rfl (ho8.out.alloc _) ⟨w8.heap.size, 0, none⟩ 1 1 [.int .i64 x, .int .i64 (my + mb), .int .i64 a, .int .i64 (y + b - my - mb)] rfl rfl ?c1 ?c2 ?c3 ?c4 ?c5 ?_; rotate_left 5; intro v' w9 hown' hgrow hnil)
          case c1 => exact news_at _ _ _
          case c2 => intro u hu; simp only [List.mem_cons, List.not_mem_nil, or_false] at hu; rcases hu with rfl | rfl | rfl | rfl <;> rfl
          case c3 => unfold maxLen; omega
          case c4 => omega
          case c5 => simp only [World.size_alloc]; have := a_w8.below.size; omega
          refine ⟨⟨4, by omega, rfl, ?_, AnyLater.grown (a_w8.alloc _) (ho8.out.alloc _) (Nat.le_refl _) hgrow⟩, by simp [intOf]⟩
          rw [HK.out, List.length_append, rcs_snoc]
          exact hown'
    · obtain rfl : k = 4 := by omega
      go_wp2
      go_ret
      exact gives_rects HO.out a_wr
end Go.Proofs.Ytddmhonhajfehaa
