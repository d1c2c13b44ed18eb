/- band: Grow and Concat of the library at bands, Join, Move, and the gaps of bands, by contract. -/
import Derived.Test.YtgfmfkjebnllnaaBandU
namespace Go.Proofs.Ytgfmfkjebnllnaa
set_option linter.unusedSimpArgs false
set_option linter.unusedVariables false
set_option linter.unusedSectionVars false
open Go.RowKit

/-! ### Grow and Concat -/
/-! ### Join -/
/-! ### gaps -/
theorem gapsB_drop {T : Bands} {j : Nat} (hj : j < T.length) (f : Int) : gapsB f (T.drop j) = (f, T[j].1) :: gapsB T[j].2 (T.drop (j + 1)) := by
  rw [List.drop_eq_getElem_cons hj, gapsB]
theorem owns_lt {w : World} {B : Nat} {v : Value} {l : Bands} (o : OB w B v l) {k : Nat} (h : w.heap.size ≤ k) : v.ownBlock ≠ some k := by
  rcases o.2 with ⟨rfl, _⟩ | ⟨g, cap, cur, rfl, h2, h3, _⟩
  · intro e; cases e
  · intro e
    obtain rfl : g = k := by simpa [Value.ownBlock] using e
    have := own_lt h3
    omega
set_option maxRecDepth 100000 in
set_option maxHeartbeats 3200000 in
theorem gaps_any (v : Value) (l : Bands) (w : World) (hr : RB w v l) (hn : l.length ≤ 5000) :
    Calls Try.prog 26 #[v] w fun e w' => ∃ v' T, e = .returned v' ∧ AnyLater w w' ∧ RB w' v' (gapsB (-1073741824) T) ∧ GoodL T ∧ ∀ y, inB T y = inB l y := by
  obtain ⟨i0, hi0, hz0, hz1, hz2⟩ := info_parts info_band
  have H := Lib.hid (tidy_any v l w hr (by omega))
  have HN0 := Lib.hid hn
  clear hr hn
  go_enter Try.func26, Try.ntmps26
  go_wp2_with fail
  refine H.out.mono ?_
  rintro e w1 ⟨v1, T, rfl, a_w1, hr, hg, hy⟩
  have HT := Lib.hid (And.intro hg (And.intro hy (told_len hg hy HN0.out)))
  obtain ⟨A, cap, rfl, h2, h3⟩ := hr
  obtain ⟨n, hn⟩ : ∃ n, T.length = n := ⟨_, rfl⟩
  have HN := Lib.hid hn
  have kn : n ≤ 5001 := by rw [← hn]; exact HT.out.2.2
  have H3 := Lib.hid h3
  rw [hn]
  clear hy hg H h2 h3 hn
  go_wp2_with fail
  go_loopg [3, 4, 10] n (fun k v fr i wr => ∃ (j : Nat) (f : Int) (K : Bands), k = n - j ∧ j ≤ n ∧ i = .int .i64 j ∧ fr = .int .i64 f ∧ AnyLater w1 wr ∧ OB wr w1.heap.size v K ∧ K.length = j ∧ K ++ gapsB f (T.drop j) = gapsB (-1073741824) T)
  case atStart => exact ⟨0, -1073741824, [], by omega, by omega, rfl, rfl, AnyLater.refl _, ⟨rfl, .inl ⟨rfl, rfl⟩⟩, rfl, rfl⟩
  case round =>
    obtain ⟨j, fr, K, hk, hj, rfl, rfl, b_wr, ho, hKl, hK⟩ := hrel
    by_cases hlt : j < n
    · have lj : j < T.length := by rw [HN.out]; exact hlt
      obtain ⟨b, off, rfl, hb, hc⟩ := H3.out (by omega)
      have c0 : wr.cell? ⟨b, off + j * 2, none⟩ = some (.int .i64 T[j].1) := (b_wr.below.cell hb).trans (hc j lj).1
      have c1 : wr.cell? ⟨b, off + j * 2 + 1, none⟩ = some (.int .i64 T[j].2) := (b_wr.below.cell hb).trans (hc j lj).2
      have hd := gapsB_drop lj fr
      rw [hd] at hK
      clear hd hc
      generalize T[j] = x at *
      obtain ⟨f, t⟩ := x
      simp only at c0 c1 hK
      have HK : Hid ((K ++ [(fr, f)]).length = j + 1 ∧ (K ++ [(fr, f)]) ++ gapsB t (T.drop (j + 1)) = gapsB (-1073741824) T) := Lib.hid ⟨by rw [List.length_append, hKl]; rfl, by rw [← hK, List.append_assoc]; rfl⟩
      have HAL := Lib.hid (And.intro ((b_wr.alloc (.cells #[.int .i64 f, .int .i64 t] 39)).alloc (.cells #[.int .i64 fr, .int .i64 f] 39)) (owns_base ho))
      have HNE := Lib.hid (owns_lt ho (Nat.le_refl _))
      have HO := Lib.hid (ho.later (((AnyLater.refl wr).alloc (.cells #[.int .i64 f, .int .i64 t] 39)).alloc (.cells #[.int .i64 fr, .int .i64 f] 39)))
      have HN1 := Lib.hid (World.news_of_block (B := wr.heap.size + 1) (w := (wr.alloc (.cells #[.int .i64 f, .int .i64 t] 39)).alloc (.cells #[.int .i64 fr, .int .i64 f] 39)) (cs := #[.int .i64 fr, .int .i64 f]) (t := 39) (fr := (0, 0)) (heap_new (by simp)))
      have HBX : Hid (((wr.alloc (.cells #[.int .i64 f, .int .i64 t] 39)).alloc (.cells #[.int .i64 fr, .int .i64 f] 39)).heap[wr.heap.size]? = some (.cells #[.int .i64 f, .int .i64 t] 39)) := Lib.hid (heap_old (by simp) (heap_new rfl))
      have HB : Hid (K.length + 1 ≤ maxLen ∧ (K.length + 1) * 16 ≤ 140737488355328 ∧ w1.heap.size ≤ ((wr.alloc (.cells #[.int .i64 f, .int .i64 t] 39)).alloc (.cells #[.int .i64 fr, .int .i64 f] 39)).heap.size) := Lib.hid ⟨by unfold maxLen; omega, by omega, HAL.out.1.below.size⟩
      clear hK hKl ho
      go_wp2_with (at_builtin; refine wpList_append_own _ rfl _ _ 31 rfl w1.heap.size 39 i0 (.agg #[.int .i64 0, .int .i64 0]) 2 16 Try.underlying31 hi0 hz0 hz1 hz2 rfl (by decide) _ K.length (flatB K) rfl HO.out ⟨wr.heap.size + 1, 0, none⟩ 1 1 [.int .i64 fr, .int .i64 f] rfl rfl HN1.out (by simp [Value.oneCell']) HB.out.1 HB.out.2.1 HB.out.2.2 ?_; intro v' w6 hown1 hgrow hnil; have S : Hid (AnyLater w1 w6 ∧ OB w6 w1.heap.size v' (K ++ [(fr, f)])) := Lib.hid ⟨grown_later HAL.out.1 hgrow HAL.out.2, by unfold OB; rw [List.length_append, flatB_append]; exact hown1⟩; have r_w6 := own_row (grown_block hgrow HBX.out HNE.out); clear hown1 hgrow hnil)
      go_roundg (n - (j + 1))
      case measure => omega
      case rel => exact ⟨j + 1, t, K ++ [(fr, f)], rfl, hlt, by go_num, rfl, S.out.1, S.out.2, HK.out.1, HK.out.2⟩
    · obtain rfl : j = n := by omega
      have HK : Hid (K ++ [(fr, 1073741824)] = gapsB (-1073741824) T) := Lib.hid (by rw [← hK, List.drop_of_length_le (Nat.le_of_eq HN.out)]; rfl)
      have HAL := Lib.hid (And.intro (b_wr.alloc (.cells #[.int .i64 fr, .int .i64 1073741824] 39)) (owns_base ho))
      have HO := Lib.hid (ho.later ((AnyLater.refl wr).alloc (.cells #[.int .i64 fr, .int .i64 1073741824] 39)))
      have HN1 := Lib.hid (World.news_of_block (w := wr.alloc (.cells #[.int .i64 fr, .int .i64 1073741824] 39)) (cs := #[.int .i64 fr, .int .i64 1073741824]) (t := 39) (fr := (0, 0)) (heap_new rfl))
      have HB : Hid (K.length + 1 ≤ maxLen ∧ (K.length + 1) * 16 ≤ 140737488355328 ∧ w1.heap.size ≤ (wr.alloc (.cells #[.int .i64 fr, .int .i64 1073741824] 39)).heap.size) := Lib.hid ⟨by unfold maxLen; omega, by omega, HAL.out.1.below.size⟩
      clear hK hKl ho
      go_wp2_with (at_builtin; refine wpList_append_own _ rfl _ _ 31 rfl w1.heap.size 39 i0 (.agg #[.int .i64 0, .int .i64 0]) 2 16 Try.underlying31 hi0 hz0 hz1 hz2 rfl (by decide) _ K.length (flatB K) rfl HO.out ⟨wr.heap.size, 0, none⟩ 1 1 [.int .i64 fr, .int .i64 1073741824] rfl rfl HN1.out (by simp [Value.oneCell']) HB.out.1 HB.out.2.1 HB.out.2.2 ?_; intro v' w6 hown1 hgrow hnil; have S : Hid (AnyLater w1 w6 ∧ OB w6 w1.heap.size v' (K ++ [(fr, 1073741824)])) := Lib.hid ⟨grown_later HAL.out.1 hgrow HAL.out.2, by unfold OB; rw [List.length_append, flatB_append]; exact hown1⟩; clear hown1 hgrow hnil)
      go_ret
      exact ⟨_, rfl, a_w1.trans S.out.1, T, by rw [← HK.out]; exact S.out.2.reads, HT.out.1, HT.out.2.1⟩

/-! ### Move -/
def moveH (D F T : Int) (c : Int × Int) : Int × Int := clB (c.1 + D, c.2 + D) F T
theorem clampB_clZ (y : Int) : clZ y (-1073741824) 1073741824 = clampB y := by unfold clZ clampB; split <;> (try split) <;> omega
theorem clampB_in (y : Int) : -1073741824 ≤ clampB y ∧ clampB y ≤ 1073741824 := by unfold clampB; omega
theorem moveH_in {D F T : Int} (hF : -1073741824 ≤ F ∧ F ≤ 1073741824) (hT : -1073741824 ≤ T ∧ T ≤ 1073741824) (b : Int × Int) : -1073741824 ≤ (moveH D F T b).1 ∧ (moveH D F T b).2 ≤ 1073741824 := by
  unfold moveH clB clZ
  constructor <;> simp only <;> split <;> (try split) <;> omega
theorem moveH_rows (D F T : Int) (l : Bands) (y : Int) : (l.any fun b => decide ((moveH D F T (edgeB b)).1 ≤ y ∧ y < (moveH D F T (edgeB b)).2)) = (inB l (y - D) && decide (F ≤ y ∧ y < T)) := by
  have h1 : ∀ b : Int × Int, decide ((moveH D F T (edgeB b)).1 ≤ y ∧ y < (moveH D F T (edgeB b)).2) = (decide (b.1 ≤ y - D ∧ y - D < b.2 ∧ -1073741824 ≤ y - D ∧ y - D < 1073741824) && decide (F ≤ y ∧ y < T)) := by
    intro b
    have e := edge_rows b (y - D)
    have m : ((moveH D F T (edgeB b)).1 ≤ y ∧ y < (moveH D F T (edgeB b)).2) ↔ ((edgeB b).1 + D ≤ y ∧ y < (edgeB b).2 + D ∧ F ≤ y ∧ y < T) := clZ_rows
    rw [← Bool.decide_and, decide_eq_decide, m, ← e]
    omega
  unfold inB
  induction l with
  | nil => simp
  | cons b l ih => rw [List.any_cons, List.any_cons, ih, h1, Bool.and_or_distrib_right]
theorem move_makes {w : World} {p1 p2 p3 : Nat} {D F T : Int} (h1 : w.heap[p1]? = some (.cells #[.int .i64 D] 3)) (h2 : w.heap[p2]? = some (.cells #[.int .i64 F] 3)) (h3 : w.heap[p3]? = some (.cells #[.int .i64 T] 3)) (hD : -1073741824 ≤ D ∧ D ≤ 1073741824) :
    Makes w 29 #[.pointer (some ⟨p1, 0, none⟩), .pointer (some ⟨p2, 0, none⟩), .pointer (some ⟨p3, 0, none⟩)] (moveH D F T) := fun b1 b2 hb w' hw => by
  have := move_clo b1 b2 D F T _ _ p1 p2 p3 w' (any_own hw h1) (any_own hw h2) (any_own hw h3) (by omega) (by omega) (by omega) rfl rfl
  simpa [moveH, clB] using this
set_option maxRecDepth 100000 in
set_option maxHeartbeats 3200000 in
theorem move_any (v : Value) (l : Bands) (d f t : Int) (w : World) (hr : RB w v l) (hn : l.length ≤ 100000) :
    Calls Try.prog 23 #[v, .int .i64 d, .int .i64 f, .int .i64 t] w (Told w fun y => inB l (y - clampB d) && decide (clampB f ≤ y ∧ y < clampB t)) := by
  have hcf : ∀ args w, (callFunc 29 args).run Try.prog w = .ok (.enter 29 args) w := enters_of Try.func29 (by kernel_rfl) rfl
  have HF := Lib.hid hcf
  have HR := Lib.hid (And.intro hr hn)
  have e1 := clampB_clZ d
  have e2 := clampB_clZ f
  have e3 := clampB_clZ t
  have hD := clampB_in d
  have hF := clampB_in f
  have hT := clampB_in t
  generalize clampB d = D at *
  generalize clampB f = F at *
  generalize clampB t = T at *
  have HH := Lib.hid (And.intro hD (And.intro hF hT))
  clear hcf hr hn hD hF hT
  go_enter Try.func23, Try.ntmps23
  go_wp2_with fail
  first | refine settle_wp (fun wS => AnyLater w wS ∧ wS.heap[w.heap.size]? = some (.cells #[.int .i64 d] 3) ∧ wS.heap[w.heap.size + 1]? = some (.cells #[.int .i64 f] 3) ∧ wS.heap[w.heap.size + 2]? = some (.cells #[.int .i64 t] 3)) ?_ ?_ | refine settle_calls (fun wS => AnyLater w wS ∧ wS.heap[w.heap.size]? = some (.cells #[.int .i64 d] 3) ∧ wS.heap[w.heap.size + 1]? = some (.cells #[.int .i64 f] 3) ∧ wS.heap[w.heap.size + 2]? = some (.cells #[.int .i64 t] 3)) ?_ ?_
  · refine ⟨?_, ?_, ?_, ?_⟩
    · repeat' (first | with_reducible assumption | with_reducible exact AnyLater.refl _ | with_reducible apply AnyLater.setCell | with_reducible apply AnyLater.later | with_reducible apply AnyLater.drewN | with_reducible apply AnyLater.drew | with_reducible apply AnyLater.alloc | ((try simp only [World.size_alloc, World.size_setCell, World.size_drew]); (try dsimp only); omega))
    · ((repeat (first | with_reducible assumption | ((with_reducible apply heap_new); (try simp only [World.size_alloc, World.size_setCell, World.size_drew, World.heap_drewN]); done) | ((with_reducible apply heap_new); (try simp only [World.size_alloc, World.size_setCell, World.size_drew, World.heap_drewN]); omega) | (with_reducible refine heap_old (by (try simp only [World.size_alloc, World.size_setCell, World.size_drew, World.heap_drewN]); omega) ?_) | (with_reducible refine heap_drew ?_) | (with_reducible refine heap_far (by omega) ?_) | (with_reducible apply heap_at))); all_goals rfl)
    · ((repeat (first | with_reducible assumption | ((with_reducible apply heap_new); (try simp only [World.size_alloc, World.size_setCell, World.size_drew, World.heap_drewN]); done) | ((with_reducible apply heap_new); (try simp only [World.size_alloc, World.size_setCell, World.size_drew, World.heap_drewN]); omega) | (with_reducible refine heap_old (by (try simp only [World.size_alloc, World.size_setCell, World.size_drew, World.heap_drewN]); omega) ?_) | (with_reducible refine heap_drew ?_) | (with_reducible refine heap_far (by omega) ?_) | (with_reducible apply heap_at))); all_goals rfl)
    · ((repeat (first | with_reducible assumption | ((with_reducible apply heap_new); (try simp only [World.size_alloc, World.size_setCell, World.size_drew, World.heap_drewN]); done) | ((with_reducible apply heap_new); (try simp only [World.size_alloc, World.size_setCell, World.size_drew, World.heap_drewN]); omega) | (with_reducible refine heap_old (by (try simp only [World.size_alloc, World.size_setCell, World.size_drew, World.heap_drewN]); omega) ?_) | (with_reducible refine heap_drew ?_) | (with_reducible refine heap_far (by omega) ?_) | (with_reducible apply heap_at))); all_goals rfl)
  rintro w1 ⟨b_w1, s0_w1, s1_w1, s2_w1⟩
  have a_w1 := b_w1
  have r0_w1 := own_row s0_w1
  have f0_w1 := own_free s0_w1
  have l0_w1 := own_lt s0_w1
  have r1_w1 := own_row s1_w1
  have f1_w1 := own_free s1_w1
  have l1_w1 := own_lt s1_w1
  have r2_w1 := own_row s2_w1
  have f2_w1 := own_free s2_w1
  have l2_w1 := own_lt s2_w1
  have z_w1 := b_w1.below.size
  apply wp_region_mem (6) [] (by kernel_rfl) (by kernel_rfl) (by simp)
  case hstab =>
    intro e he v x y hxy hv
    simp only [List.mem_cons, List.not_mem_nil, or_false] at he
  case hlex =>
    intro U
    have q0 := fun (v : Later (later U)) => own_row (any_own ⟨v, rfl⟩ (any_own ⟨U, rfl⟩ s0_w1))
    have q1 := fun (v : Later (later U)) => own_row (any_own ⟨v, rfl⟩ (any_own ⟨U, rfl⟩ s1_w1))
    have q2 := fun (v : Later (later U)) => own_row (any_own ⟨v, rfl⟩ (any_own ⟨U, rfl⟩ s2_w1))
    simp only [absFrom, absOp, idx, List.map_cons, List.map_nil, List.contains_cons, List.contains_nil, Nat.reduceBEq, Bool.or_false, Bool.false_or, Bool.true_or, Bool.or_true, Bool.false_eq_true, Nat.reduceLeDiff, Nat.reduceAdd, if_false, if_true]
    repeat (go_big_quiet_step (first | (go_at_call 27; exact in_later_same (bound_any _ _ _ (by assumption)))))
    exact wpQuiet_nil rfl
  case hown =>
    intro e he o ho
    simp only [List.mem_cons, List.not_mem_nil, or_false] at he
  case htail =>
    intro g u hst hne
    have b_w2 : AnyLater w1 (later u) := ⟨u, rfl⟩
    generalize later u = w2 at *
    clear u
    clear hst hne
    simp only [fillAll, Act.put, List.setIfInBounds_toArray, List.set_cons_zero, List.set_cons_succ, List.drop_succ_cons, List.drop_zero]
    have z_w2 := b_w2.below.size
    have a_w2 := a_w1.trans b_w2
    have s0_w2 := any_own b_w2 s0_w1
    have s1_w2 := any_own b_w2 s1_w1
    have s2_w2 := any_own b_w2 s2_w1
    have r0_w2 := own_row s0_w2
    have f0_w2 := own_free s0_w2
    have l0_w2 := own_lt s0_w2
    have r1_w2 := own_row s1_w2
    have f1_w2 := own_free s1_w2
    have l1_w2 := own_lt s1_w2
    have r2_w2 := own_row s2_w2
    have f2_w2 := own_free s2_w2
    have l2_w2 := own_lt s2_w2
    (try clear r0_w1); (try clear f0_w1)
    (try clear r1_w1); (try clear f1_w1)
    (try clear r2_w1); (try clear f2_w1)
    go_wp2_with fail
    first | refine settle_wp (fun wS => AnyLater w wS ∧ wS.heap[w.heap.size]? = some (.cells #[.int .i64 D] 3) ∧ wS.heap[w.heap.size + 1]? = some (.cells #[.int .i64 F] 3) ∧ wS.heap[w.heap.size + 2]? = some (.cells #[.int .i64 T] 3)) ?_ ?_ | refine settle_calls (fun wS => AnyLater w wS ∧ wS.heap[w.heap.size]? = some (.cells #[.int .i64 D] 3) ∧ wS.heap[w.heap.size + 1]? = some (.cells #[.int .i64 F] 3) ∧ wS.heap[w.heap.size + 2]? = some (.cells #[.int .i64 T] 3)) ?_ ?_
    · refine ⟨?_, ?_, ?_, ?_⟩
      · repeat' (first | with_reducible assumption | with_reducible exact AnyLater.refl _ | with_reducible apply AnyLater.setCell | with_reducible apply AnyLater.later | with_reducible apply AnyLater.drewN | with_reducible apply AnyLater.drew | with_reducible apply AnyLater.alloc | ((try simp only [World.size_alloc, World.size_setCell, World.size_drew]); (try dsimp only); omega))
      · ((repeat (first | with_reducible assumption | ((with_reducible apply heap_new); (try simp only [World.size_alloc, World.size_setCell, World.size_drew, World.heap_drewN]); done) | ((with_reducible apply heap_new); (try simp only [World.size_alloc, World.size_setCell, World.size_drew, World.heap_drewN]); omega) | (with_reducible refine heap_old (by (try simp only [World.size_alloc, World.size_setCell, World.size_drew, World.heap_drewN]); omega) ?_) | (with_reducible refine heap_drew ?_) | (with_reducible refine heap_far (by omega) ?_) | (with_reducible apply heap_at))); all_goals rfl)
      · ((repeat (first | with_reducible assumption | ((with_reducible apply heap_new); (try simp only [World.size_alloc, World.size_setCell, World.size_drew, World.heap_drewN]); done) | ((with_reducible apply heap_new); (try simp only [World.size_alloc, World.size_setCell, World.size_drew, World.heap_drewN]); omega) | (with_reducible refine heap_old (by (try simp only [World.size_alloc, World.size_setCell, World.size_drew, World.heap_drewN]); omega) ?_) | (with_reducible refine heap_drew ?_) | (with_reducible refine heap_far (by omega) ?_) | (with_reducible apply heap_at))); all_goals rfl)
      · ((repeat (first | with_reducible assumption | ((with_reducible apply heap_new); (try simp only [World.size_alloc, World.size_setCell, World.size_drew, World.heap_drewN]); done) | ((with_reducible apply heap_new); (try simp only [World.size_alloc, World.size_setCell, World.size_drew, World.heap_drewN]); omega) | (with_reducible refine heap_old (by (try simp only [World.size_alloc, World.size_setCell, World.size_drew, World.heap_drewN]); omega) ?_) | (with_reducible refine heap_drew ?_) | (with_reducible refine heap_far (by omega) ?_) | (with_reducible apply heap_at))); all_goals rfl)
    rintro w3 ⟨b_w3, s0_w3, s1_w3, s2_w3⟩
    have a_w3 := b_w3
    have r0_w3 := own_row s0_w3
    have f0_w3 := own_free s0_w3
    have l0_w3 := own_lt s0_w3
    have r1_w3 := own_row s1_w3
    have f1_w3 := own_free s1_w3
    have l1_w3 := own_lt s1_w3
    have r2_w3 := own_row s2_w3
    have f2_w3 := own_free s2_w3
    have l2_w3 := own_lt s2_w3
    have z_w3 := b_w3.below.size
    have HC := Lib.hid (changed_any v 29 _ (moveH D F T) l w3 (HR.out.1.later a_w3) HR.out.2 (fun b => moveH_in HH.out.2.1 HH.out.2.2 _) HF.out (move_makes s0_w3 s1_w3 s2_w3 HH.out.1))
    refine HC.out.mono ?_
    rintro e w4 ⟨v4, T4, rfl, b_w4, o4, g4, r4⟩
    have HE := Lib.hid (And.intro o4.reads (And.intro g4 r4))
    clear o4 g4 r4
    go_wp2_with fail
    go_ret
    exact ⟨_, T4, rfl, a_w3.trans b_w4, HE.out.1, HE.out.2.1, fun y => by rw [HE.out.2.2, pickB_rows (fun b => moveH_in HH.out.2.1 HH.out.2.2 _), moveH_rows]⟩
end Go.Proofs.Ytgfmfkjebnllnaa
