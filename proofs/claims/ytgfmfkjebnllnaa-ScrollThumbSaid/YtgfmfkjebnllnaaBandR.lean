/- band: merged by contract. -/
import Derived.Test.YtgfmfkjebnllnaaBandQ
namespace Go.Proofs.Ytgfmfkjebnllnaa
set_option linter.unusedSimpArgs false
set_option linter.unusedVariables false
set_option linter.unusedSectionVars false
open Go.RowKit

theorem last_split (K : Bands) : K = [] ∨ ∃ K0 k, K = K0 ++ [k] := by
  rcases List.eq_nil_or_concat K with h | ⟨K0, k, h⟩
  · exact .inl h
  · exact .inr ⟨K0, k, by rw [h, List.concat_eq_append]⟩
set_option maxRecDepth 100000 in
set_option maxHeartbeats 3200000 in
theorem merged_block (gb n cap : Nat) (cur0 : Array Value) (L : Bands) (W w : World) (hW : AnyLater W w) (hWg : W.heap.size ≤ gb) (hg : w.heap[gb]? = some (.cells cur0 39)) (hL : L.length = n) (hn : n ≤ 100000) (hcap : n ≤ cap) (hm : cap ≤ maxLen) (hsz : cur0.size = cap * 2)
    (hc : CellsB cur0 L) (hF : Full L) (hS : Sorted L) :
    Calls Try.prog 36 #[.slice (some ⟨gb, 0, none⟩) n cap] w fun e w' => ∃ v K, e = .returned v ∧ AnyLater W w' ∧ OB w' W.heap.size v K ∧ GoodL K ∧ ∀ y, inB K y = inB L y := by
  obtain ⟨i0, hi0, hz0, hz1, hz2⟩ := info_parts info_band
  have HL := Lib.hid hL
  have HN := Lib.hid (And.intro hW (And.intro hWg (And.intro hg (And.intro hsz hc))))
  have HF := Lib.hid (And.intro hF (And.intro hS hm))
  have hmx := run_maxZ (P := Try.prog)
  clear hL hW hg hsz hc hF hS hm
  go_enter Try.func36, Try.ntmps36
  go_wp2_with fail
  go_loopg [3, 11] n (fun k v i wr => ∃ (j : Nat) (K : Bands) (cur : Array Value), k = n - j ∧ j ≤ n ∧ i = .int .i64 j ∧ v = .slice (some ⟨gb, 0, none⟩) K.length cap ∧ AnyLater W wr ∧ wr.heap[gb]? = some (.cells cur 39) ∧ cur.size = cap * 2 ∧ MergeAt L j K cur)
  case atStart =>
    obtain ⟨h1, h2, h3, h4, h5⟩ := HN.out
    exact ⟨0, [], cur0, by omega, by omega, rfl, rfl, h1, h3, h4, ⟨MergeInv.zero L, fun i hi => by simp at hi, fun i hi _ => h5 i hi⟩⟩
  case round =>
    obtain ⟨j, K, cur, hk, hj, rfl, rfl, a_wr, s0_wr, hsz, hM⟩ := hrel
    have HM := Lib.hid hM
    have HZ := Lib.hid hsz
    clear hM hsz
    by_cases hlt : j < n
    · have lj : j < L.length := by rw [HL.out]; exact hlt
      obtain ⟨c0, c1⟩ := HM.out.rest j lj (Nat.le_refl _)
      have r0_wr := own_row s0_wr
      have f0_wr := own_free s0_wr
      have l0_wr := own_lt s0_wr
      have HK : Hid (K.length ≤ j) := Lib.hid HM.out.inv.len
      have HR : Hid (∀ b ∈ K, b.2 < L[j].1 → True) := Lib.hid (fun _ _ _ => trivial)
      have HX := Lib.hid (rfl : L[j] = L[j])
      obtain ⟨x, hx⟩ : ∃ x, L[j] = x := ⟨_, rfl⟩
      obtain ⟨f, t⟩ := x
      have HE := Lib.hid hx
      rw [hx] at c0 c1
      simp only at c0 c1
      clear hx HX HR
      rcases last_split K with rfl | ⟨K0, k, rfl⟩
      · have HF1 : Hid (∀ cur', cur'[0 * 2]? = some (.int .i64 f) → cur'[0 * 2 + 1]? = some (.int .i64 t) → (∀ i, i < 0 * 2 ∨ 0 * 2 + 2 ≤ i → cur'[i]? = cur[i]?) → MergeAt L (j + 1) [(f, t)] cur') := Lib.hid (fun cur' q0 q1 q2 => by
          have q := HM.out.fresh lj HF.out.1 HF.out.2.1 (cur' := cur') (by simp) (by rw [HE.out]; exact q0) (by rw [HE.out]; exact q1) q2
          rw [HE.out] at q
          exact q)
        simp only [List.length_nil]
        go_wp2_with fail
        first | refine settle_wp (fun wS => AnyLater wr wS ∧ wS.heap[wr.heap.size]? = some (.cells #[.int .i64 f, .int .i64 t] 39)) ?_ ?_ | refine settle_calls (fun wS => AnyLater wr wS ∧ wS.heap[wr.heap.size]? = some (.cells #[.int .i64 f, .int .i64 t] 39)) ?_ ?_
        · refine ⟨?_, ?_⟩
          · repeat' (first | with_reducible assumption | with_reducible exact AnyLater.refl _ | with_reducible apply AnyLater.setCell | with_reducible apply AnyLater.later | with_reducible apply AnyLater.drewN | with_reducible apply AnyLater.drew | with_reducible apply AnyLater.alloc | ((try simp only [World.size_alloc, World.size_setCell, World.size_drew]); (try dsimp only); omega))
          · ((repeat (first | with_reducible assumption | ((with_reducible apply heap_new); (try simp only [World.size_alloc, World.size_setCell, World.size_drew, World.heap_drewN]); done) | ((with_reducible apply heap_new); (try simp only [World.size_alloc, World.size_setCell, World.size_drew, World.heap_drewN]); omega) | (with_reducible refine heap_old (by (try simp only [World.size_alloc, World.size_setCell, World.size_drew, World.heap_drewN]); omega) ?_) | (with_reducible refine heap_drew ?_) | (with_reducible refine heap_far (by omega) ?_) | (with_reducible apply heap_at))); all_goals rfl)
        rintro w1 ⟨b_w1, s1_w1⟩
        have a_w1 := a_wr.trans b_w1
        have s0_w1 := any_own b_w1 s0_wr
        have r0_w1 := own_row s0_w1
        have f0_w1 := own_free s0_w1
        have l0_w1 := own_lt s0_w1
        (try clear r0_wr); (try clear f0_wr)
        have r1_w1 := own_row s1_w1
        have f1_w1 := own_free s1_w1
        have l1_w1 := own_lt s1_w1
        have z_w1 := b_w1.below.size
        apply wp_region_mem (13) [] (by kernel_rfl) (by kernel_rfl) (by simp)
        case hstab =>
          intro e he v x y hxy hv
          simp only [List.mem_cons, List.not_mem_nil, or_false] at he
        case hlex =>
          intro U
          have q0 := fun (v : Later (later U)) => own_row (any_own ⟨v, rfl⟩ (any_own ⟨U, rfl⟩ s0_w1))
          have q1 := fun (v : Later (later U)) => own_row (any_own ⟨v, rfl⟩ (any_own ⟨U, rfl⟩ s1_w1))
          simp only [absFrom, absOp, idx, List.map_cons, List.map_nil, List.contains_cons, List.contains_nil, Nat.reduceBEq, Bool.or_false, Bool.false_or, Bool.true_or, Bool.or_true, Bool.false_eq_true, Nat.reduceLeDiff, Nat.reduceAdd, if_false, if_true]
          repeat (go_big_quiet_step (first | fail))
          exact wpQuiet_nil rfl
        case hown =>
          intro e he o ho
          simp only [List.mem_cons, List.not_mem_nil, or_false] at he
        case htail =>
          intro g u hst hne
          have b_w2 : AnyLater w1 (later u) := ⟨u, rfl⟩
          generalize later u = w2 at *
          clear u
          clear hst hne
          simp only [fillAll, Act.put, List.setIfInBounds_toArray, List.set_cons_zero, List.set_cons_succ, List.drop_succ_cons, List.drop_zero]
          have z_w2 := b_w2.below.size
          have a_w2 := a_w1.trans b_w2
          have s0_w2 := any_own b_w2 s0_w1
          have s1_w2 := any_own b_w2 s1_w1
          have r0_w2 := own_row s0_w2
          have f0_w2 := own_free s0_w2
          have l0_w2 := own_lt s0_w2
          have r1_w2 := own_row s1_w2
          have f1_w2 := own_free s1_w2
          have l1_w2 := own_lt s1_w2
          (try clear r0_w1); (try clear f0_w1)
          (try clear r1_w1); (try clear f1_w1)
          have HB := Lib.hid (And.intro (heap_old (o := .cells #[.int .i64 f, .int .i64 t] 39) l0_w2 s0_w2) (World.news_of_block (w := w2.alloc (.cells #[.int .i64 f, .int .i64 t] 39)) (cs := #[.int .i64 f, .int .i64 t]) (t := 39) (fr := (0, 0)) (heap_new rfl)))
          have HQ : Hid (0 + 1 ≤ cap ∧ 0 * 2 + 2 ≤ cur.size) := Lib.hid ⟨by omega, by rw [HZ.out]; omega⟩
          go_wp2_with (at_builtin; refine wpList_append_fit _ rfl _ _ 31 rfl 39 i0 2 Try.underlying31 hi0 hz1 gb 0 cap cur rfl HB.out.1 ⟨w2.heap.size, 0, none⟩ 1 1 [.int .i64 f, .int .i64 t] rfl rfl HB.out.2 (by simp [Value.oneCell']) HQ.out.1 HQ.out.2 ?_; intro w3 cur3 p1 p2 p3 p4 p5; have S : Hid (AnyLater W w3 ∧ w3.heap[gb]? = some (.cells cur3 39) ∧ cur3.size = cap * 2 ∧ MergeAt L (j + 1) [(f, t)] cur3) := Lib.hid ⟨p5 W (a_w2.alloc _) hWg, p1, p2.trans HZ.out, HF1.out cur3 (p3 0 (by simp)) (p3 1 (by simp)) (fun i hi => p4 i hi)⟩; clear p1 p2 p3 p4 p5)
          go_roundg (n - (j + 1))
          case measure => omega
          case rel => exact ⟨j + 1, [(f, t)], cur3, rfl, hlt, by go_num, rfl, S.out⟩
      · obtain ⟨kf, kt⟩ := k
        have e : (K0 ++ [(kf, kt)]).length = K0.length + 1 := by simp
        have d := HM.out.kept K0.length (by rw [e]; omega)
        rw [List.getElem_append_right (Nat.le_refl _)] at d
        simp only [Nat.sub_self, List.getElem_cons_zero] at d
        obtain ⟨d0, d1⟩ := d
        have HS : Hid (f ≤ kt → MergeAt L (j + 1) (K0 ++ [(kf, hiZ kt t)]) (cur.setIfInBounds (K0.length * 2 + 1) (.int .i64 (hiZ kt t)))) := Lib.hid (fun h => by
          have q := HM.out.more lj HF.out.1 (by rw [HE.out]; exact h)
          rw [HE.out] at q
          exact q)
        have HF2 : Hid (kt < f → ∀ cur', cur'[(K0.length + 1) * 2]? = some (.int .i64 f) → cur'[(K0.length + 1) * 2 + 1]? = some (.int .i64 t) → (∀ i, i < (K0.length + 1) * 2 ∨ (K0.length + 1) * 2 + 2 ≤ i → cur'[i]? = cur[i]?) → MergeAt L (j + 1) (K0 ++ [(kf, kt)] ++ [(f, t)]) cur') := Lib.hid (fun h cur' q0 q1 q2 => by
          have q := HM.out.fresh lj HF.out.1 HF.out.2.1 (cur' := cur') (HM.out.inv.good.last (by rw [HE.out]; exact h)) (by rw [HE.out, e]; exact q0) (by rw [HE.out, e]; exact q1) (by rw [e]; exact q2)
          rw [HE.out] at q
          exact q)
        have HK2 : Hid (K0.length + 1 ≤ j) := Lib.hid (by have := HK.out; rw [e] at this; exact this)
        have HLen : Hid (∀ z : Int × Int, (K0 ++ [z]).length = K0.length + 1) := Lib.hid (by intro z; simp)
        have HLen2 : Hid ((K0 ++ [(kf, kt)] ++ [(f, t)]).length = K0.length + 1 + 1) := Lib.hid (by simp)
        rw [e]
        clear e HM HK
        have hD : ∀ m, K0.length = m → m = K0.length := fun _ h => h.symm
        generalize K0.length = m at *
        clear hD
        have lm : m + 1 ≤ j := HK2.out
        have lm2 : m < 100000 := by omega
        by_cases h : f ≤ kt
        · go_wp2_with fail
          first | refine settle_wp (fun wS => AnyLater wr wS ∧ wS.heap[wr.heap.size]? = some (.cells #[.int .i64 f, .int .i64 t] 39)) ?_ ?_ | refine settle_calls (fun wS => AnyLater wr wS ∧ wS.heap[wr.heap.size]? = some (.cells #[.int .i64 f, .int .i64 t] 39)) ?_ ?_
          · refine ⟨?_, ?_⟩
            · repeat' (first | with_reducible assumption | with_reducible exact AnyLater.refl _ | with_reducible apply AnyLater.setCell | with_reducible apply AnyLater.later | with_reducible apply AnyLater.drewN | with_reducible apply AnyLater.drew | with_reducible apply AnyLater.alloc | ((try simp only [World.size_alloc, World.size_setCell, World.size_drew]); (try dsimp only); omega))
            · ((repeat (first | with_reducible assumption | ((with_reducible apply heap_new); (try simp only [World.size_alloc, World.size_setCell, World.size_drew, World.heap_drewN]); done) | ((with_reducible apply heap_new); (try simp only [World.size_alloc, World.size_setCell, World.size_drew, World.heap_drewN]); omega) | (with_reducible refine heap_old (by (try simp only [World.size_alloc, World.size_setCell, World.size_drew, World.heap_drewN]); omega) ?_) | (with_reducible refine heap_drew ?_) | (with_reducible refine heap_far (by omega) ?_) | (with_reducible apply heap_at))); all_goals rfl)
          rintro w1 ⟨b_w1, s1_w1⟩
          have a_w1 := a_wr.trans b_w1
          have s0_w1 := any_own b_w1 s0_wr
          have r0_w1 := own_row s0_w1
          have f0_w1 := own_free s0_w1
          have l0_w1 := own_lt s0_w1
          (try clear r0_wr); (try clear f0_wr)
          have r1_w1 := own_row s1_w1
          have f1_w1 := own_free s1_w1
          have l1_w1 := own_lt s1_w1
          have z_w1 := b_w1.below.size
          apply wp_region_mem (13) [] (by kernel_rfl) (by kernel_rfl) (by simp)
          case hstab =>
            intro e he v x y hxy hv
            simp only [List.mem_cons, List.not_mem_nil, or_false] at he
          case hlex =>
            intro U
            have q0 := fun (v : Later (later U)) => own_row (any_own ⟨v, rfl⟩ (any_own ⟨U, rfl⟩ s0_w1))
            have q1 := fun (v : Later (later U)) => own_row (any_own ⟨v, rfl⟩ (any_own ⟨U, rfl⟩ s1_w1))
            simp only [absFrom, absOp, idx, List.map_cons, List.map_nil, List.contains_cons, List.contains_nil, Nat.reduceBEq, Bool.or_false, Bool.false_or, Bool.true_or, Bool.or_true, Bool.false_eq_true, Nat.reduceLeDiff, Nat.reduceAdd, if_false, if_true]
            repeat (go_big_quiet_step (first | fail))
            exact wpQuiet_nil rfl
          case hown =>
            intro e he o ho
            simp only [List.mem_cons, List.not_mem_nil, or_false] at he
          case htail =>
            intro g u hst hne
            have b_w2 : AnyLater w1 (later u) := ⟨u, rfl⟩
            generalize later u = w2 at *
            clear u
            clear hst hne
            simp only [fillAll, Act.put, List.setIfInBounds_toArray, List.set_cons_zero, List.set_cons_succ, List.drop_succ_cons, List.drop_zero]
            have z_w2 := b_w2.below.size
            have a_w2 := a_w1.trans b_w2
            have s0_w2 := any_own b_w2 s0_w1
            have s1_w2 := any_own b_w2 s1_w1
            have r0_w2 := own_row s0_w2
            have f0_w2 := own_free s0_w2
            have l0_w2 := own_lt s0_w2
            have r1_w2 := own_row s1_w2
            have f1_w2 := own_free s1_w2
            have l1_w2 := own_lt s1_w2
            (try clear r0_w1); (try clear f0_w1)
            (try clear r1_w1); (try clear f1_w1)
            go_wp2_with fail
            apply wp_region_mem (14) [] (by kernel_rfl) (by kernel_rfl) (by simp)
            case hstab =>
              intro e he v x y hxy hv
              simp only [List.mem_cons, List.not_mem_nil, or_false] at he
            case hlex =>
              intro U
              have q0 := fun (v : Later (later U)) => own_row (any_own ⟨v, rfl⟩ (any_own ⟨U, rfl⟩ s0_w2))
              have q1 := fun (v : Later (later U)) => own_row (any_own ⟨v, rfl⟩ (any_own ⟨U, rfl⟩ s1_w2))
              simp only [absFrom, absOp, idx, List.map_cons, List.map_nil, List.contains_cons, List.contains_nil, Nat.reduceBEq, Bool.or_false, Bool.false_or, Bool.true_or, Bool.or_true, Bool.false_eq_true, Nat.reduceLeDiff, Nat.reduceAdd, if_false, if_true]
              repeat (go_big_quiet_step (first | fail))
              exact wpQuiet_nil rfl
            case hown =>
              intro e he o ho
              simp only [List.mem_cons, List.not_mem_nil, or_false] at he
            case htail =>
              intro g u hst hne
              have b_w3 : AnyLater w2 (later u) := ⟨u, rfl⟩
              generalize later u = w3 at *
              clear u
              clear hst hne
              simp only [fillAll, Act.put, List.setIfInBounds_toArray, List.set_cons_zero, List.set_cons_succ, List.drop_succ_cons, List.drop_zero]
              have z_w3 := b_w3.below.size
              have a_w3 := a_w2.trans b_w3
              have s0_w3 := any_own b_w3 s0_w2
              have s1_w3 := any_own b_w3 s1_w2
              have r0_w3 := own_row s0_w3
              have f0_w3 := own_free s0_w3
              have l0_w3 := own_lt s0_w3
              have r1_w3 := own_row s1_w3
              have f1_w3 := own_free s1_w3
              have l1_w3 := own_lt s1_w3
              (try clear r0_w2); (try clear f0_w2)
              (try clear r1_w2); (try clear f1_w2)
              go_wp2_with fail
              go_roundg (n - (j + 1))
              case measure => omega
              case rel => exact ⟨j + 1, K0 ++ [(kf, hiZ kt t)], _, rfl, hlt, by go_num, by rw [HLen.out], a_w3.setCell hWg _, heap_at s0_w3 rfl, by rw [Array.size_setIfInBounds]; exact HZ.out, HS.out h⟩
        · go_wp2_with fail
          first | refine settle_wp (fun wS => AnyLater wr wS ∧ wS.heap[wr.heap.size]? = some (.cells #[.int .i64 f, .int .i64 t] 39)) ?_ ?_ | refine settle_calls (fun wS => AnyLater wr wS ∧ wS.heap[wr.heap.size]? = some (.cells #[.int .i64 f, .int .i64 t] 39)) ?_ ?_
          · refine ⟨?_, ?_⟩
            · repeat' (first | with_reducible assumption | with_reducible exact AnyLater.refl _ | with_reducible apply AnyLater.setCell | with_reducible apply AnyLater.later | with_reducible apply AnyLater.drewN | with_reducible apply AnyLater.drew | with_reducible apply AnyLater.alloc | ((try simp only [World.size_alloc, World.size_setCell, World.size_drew]); (try dsimp only); omega))
            · ((repeat (first | with_reducible assumption | ((with_reducible apply heap_new); (try simp only [World.size_alloc, World.size_setCell, World.size_drew, World.heap_drewN]); done) | ((with_reducible apply heap_new); (try simp only [World.size_alloc, World.size_setCell, World.size_drew, World.heap_drewN]); omega) | (with_reducible refine heap_old (by (try simp only [World.size_alloc, World.size_setCell, World.size_drew, World.heap_drewN]); omega) ?_) | (with_reducible refine heap_drew ?_) | (with_reducible refine heap_far (by omega) ?_) | (with_reducible apply heap_at))); all_goals rfl)
          rintro w1 ⟨b_w1, s1_w1⟩
          have a_w1 := a_wr.trans b_w1
          have s0_w1 := any_own b_w1 s0_wr
          have r0_w1 := own_row s0_w1
          have f0_w1 := own_free s0_w1
          have l0_w1 := own_lt s0_w1
          (try clear r0_wr); (try clear f0_wr)
          have r1_w1 := own_row s1_w1
          have f1_w1 := own_free s1_w1
          have l1_w1 := own_lt s1_w1
          have z_w1 := b_w1.below.size
          apply wp_region_mem (13) [] (by kernel_rfl) (by kernel_rfl) (by simp)
          case hstab =>
            intro e he v x y hxy hv
            simp only [List.mem_cons, List.not_mem_nil, or_false] at he
          case hlex =>
            intro U
            have q0 := fun (v : Later (later U)) => own_row (any_own ⟨v, rfl⟩ (any_own ⟨U, rfl⟩ s0_w1))
            have q1 := fun (v : Later (later U)) => own_row (any_own ⟨v, rfl⟩ (any_own ⟨U, rfl⟩ s1_w1))
            simp only [absFrom, absOp, idx, List.map_cons, List.map_nil, List.contains_cons, List.contains_nil, Nat.reduceBEq, Bool.or_false, Bool.false_or, Bool.true_or, Bool.or_true, Bool.false_eq_true, Nat.reduceLeDiff, Nat.reduceAdd, if_false, if_true]
            repeat (go_big_quiet_step (first | fail))
            exact wpQuiet_nil rfl
          case hown =>
            intro e he o ho
            simp only [List.mem_cons, List.not_mem_nil, or_false] at he
          case htail =>
            intro g u hst hne
            have b_w2 : AnyLater w1 (later u) := ⟨u, rfl⟩
            generalize later u = w2 at *
            clear u
            clear hst hne
            simp only [fillAll, Act.put, List.setIfInBounds_toArray, List.set_cons_zero, List.set_cons_succ, List.drop_succ_cons, List.drop_zero]
            have z_w2 := b_w2.below.size
            have a_w2 := a_w1.trans b_w2
            have s0_w2 := any_own b_w2 s0_w1
            have s1_w2 := any_own b_w2 s1_w1
            have r0_w2 := own_row s0_w2
            have f0_w2 := own_free s0_w2
            have l0_w2 := own_lt s0_w2
            have r1_w2 := own_row s1_w2
            have f1_w2 := own_free s1_w2
            have l1_w2 := own_lt s1_w2
            (try clear r0_w1); (try clear f0_w1)
            (try clear r1_w1); (try clear f1_w1)
            have HB := Lib.hid (And.intro (heap_old (o := .cells #[.int .i64 f, .int .i64 t] 39) l0_w2 s0_w2) (World.news_of_block (w := w2.alloc (.cells #[.int .i64 f, .int .i64 t] 39)) (cs := #[.int .i64 f, .int .i64 t]) (t := 39) (fr := (0, 0)) (heap_new rfl)))
            have HQ : Hid ((m + 1) + 1 ≤ cap ∧ (m + 1) * 2 + 2 ≤ cur.size) := Lib.hid ⟨by omega, by rw [HZ.out]; omega⟩
            go_wp2_with (at_builtin; refine wpList_append_fit _ rfl _ _ 31 rfl 39 i0 2 Try.underlying31 hi0 hz1 gb (m + 1) cap cur rfl HB.out.1 ⟨w2.heap.size, 0, none⟩ 1 1 [.int .i64 f, .int .i64 t] rfl rfl HB.out.2 (by simp [Value.oneCell']) HQ.out.1 HQ.out.2 ?_; intro w3 cur3 p1 p2 p3 p4 p5; have S : Hid (AnyLater W w3 ∧ w3.heap[gb]? = some (.cells cur3 39) ∧ cur3.size = cap * 2 ∧ MergeAt L (j + 1) (K0 ++ [(kf, kt)] ++ [(f, t)]) cur3) := Lib.hid ⟨p5 W (a_w2.alloc _) hWg, p1, p2.trans HZ.out, HF2.out (by omega) cur3 (p3 0 (by simp)) (p3 1 (by simp)) (fun i hi => p4 i hi)⟩; clear p1 p2 p3 p4 p5)
            go_roundg (n - (j + 1))
            case measure => omega
            case rel => exact ⟨j + 1, K0 ++ [(kf, kt)] ++ [(f, t)], cur3, rfl, hlt, by go_num, by rw [HLen2.out], S.out⟩
    · obtain rfl : j = n := by omega
      go_wp2_with fail
      go_ret
      exact ⟨_, K, rfl, a_wr, OB.of_block hWg s0_wr (by have := HM.out.inv.len; omega) HF.out.2.2 HZ.out HM.out.kept, HM.out.inv.good, fun y => by rw [HM.out.inv.rows, List.take_of_length_le (Nat.le_of_eq HL.out)]⟩
end Go.Proofs.Ytgfmfkjebnllnaa
