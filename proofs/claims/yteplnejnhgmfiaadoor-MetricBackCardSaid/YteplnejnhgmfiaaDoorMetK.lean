/- metric: the document's Near, by contract. -/
import Derived.Test.YteplnejnhgmfiaaDoorMetJ
namespace Go.Proofs.YteplnejnhgmfiaaDoor
set_option linter.unusedSimpArgs false
set_option linter.unusedVariables false
set_option linter.unusedSectionVars false
open Go.RowKit

set_option maxRecDepth 100000 in
set_option maxHeartbeats 1600000 in
theorem xnear_any (a1 a2 : Option Addr) (k1 k2 : Nat) (r : Ld) (x : Int) (w : World) (c : Int) (hcc : nearL r x = c) (hc : FR celF w (.slice a1 r.cs.length k1) r.cs) (hxs : RI w (.slice a2 r.xs.length k2) r.xs) (hok : LdOk r) (hn : r.cs.length ≤ 1000) (hl : r.xs.length ≤ 100000) (hx : I64s x) :
    Calls Tryd.prog 23 #[.agg #[.slice a1 r.cs.length k1, .slice a2 r.xs.length k2, .int .i64 r.up, .int .i64 r.dn, .int .i64 r.fr, .int .i64 r.en, .bool r.la], .int .i64 x] w fun e w' => e = .returned (.int .i64 c) ∧ AnyLater w w' := by
  have HPL := Lib.hid (fun w1 (a : AnyLater w w1) => xplaces_any a1 a2 k1 k2 r w1 (hc.later a) (hxs.later a) hn hl)
  have HPO := Lib.hid (fun j => getD_ok (placesL_ok hok) j)
  have HXO := Lib.hid (fun j => getD_ok hok.2.2 j)
  have HG := Lib.hid (fun j w => same_later (xgap_any (r.xs.getD j 0) x w _ rfl (getD_ok hok.2.2 j) hx))
  have HGI := Lib.hid (fun j => gapZ_in (getD_ok hok.2.2 j) hx)
  obtain ⟨n, hnn⟩ : ∃ n, r.cs.length = n := ⟨_, rfl⟩
  obtain ⟨n2, hn2⟩ : ∃ n2, r.xs.length = n2 := ⟨_, rfl⟩
  have HN2 := Lib.hid hn2
  obtain ⟨m, hm⟩ : ∃ m, (placesL r).length = m := ⟨_, rfl⟩
  have HM := Lib.hid hm
  have hm2 := (placesL_len r).1
  have HF : Hid (m = 0 ∧ r.fr = c ∨ 0 < m ∧ (placesL r).getD (nbest (placesL r) r.xs x (m - 1)) 0 = c) := Lib.hid (by
    unfold nearL at hcc
    rw [hm] at hcc
    split at hcc
    · exact .inl ⟨by assumption, hcc⟩
    · exact .inr ⟨by omega, hcc⟩)
  rw [hn2] at HPL hl hm2
  rw [hnn] at HPL
  rw [hm] at HPL hm2
  rw [hnn, hn2]
  obtain ⟨x1, x2⟩ := hx
  obtain ⟨⟨-, -, ⟨f1, f2⟩, -⟩, -⟩ := hok
  clear hc hxs hnn hn2 hm hcc
  go_enter Tryd.func23, Tryd.ntmps23
  go_wp2_with fail
  first | refine settle_wp (fun wS => AnyLater w wS ∧ wS.heap[w.heap.size]? = some (.cells #[.slice a1 n k1, .slice a2 n2 k2, .int .i64 r.up, .int .i64 r.dn, .int .i64 r.fr, .int .i64 r.en, .bool r.la] 43)) ?_ ?_ | refine settle_calls (fun wS => AnyLater w wS ∧ wS.heap[w.heap.size]? = some (.cells #[.slice a1 n k1, .slice a2 n2 k2, .int .i64 r.up, .int .i64 r.dn, .int .i64 r.fr, .int .i64 r.en, .bool r.la] 43)) ?_ ?_
  · refine ⟨?_, ?_⟩
    · repeat' (first | with_reducible assumption | with_reducible exact AnyLater.refl _ | with_reducible apply AnyLater.setCell | with_reducible apply AnyLater.later | with_reducible apply AnyLater.drewN | with_reducible apply AnyLater.drew | with_reducible apply AnyLater.alloc | ((try simp only [World.size_alloc, World.size_setCell, World.size_drew]); (try dsimp only); omega))
    · ((repeat (first | with_reducible assumption | ((with_reducible apply heap_new); (try simp only [World.size_alloc, World.size_setCell, World.size_drew, World.heap_drewN]); done) | ((with_reducible apply heap_new); (try simp only [World.size_alloc, World.size_setCell, World.size_drew, World.heap_drewN]); omega) | (with_reducible refine heap_old (by (try simp only [World.size_alloc, World.size_setCell, World.size_drew, World.heap_drewN]); omega) ?_) | (with_reducible refine heap_drew ?_) | (with_reducible refine heap_far (by omega) ?_) | (with_reducible apply heap_at))); all_goals rfl)
  rintro w1 ⟨b_w1, s0_w1⟩
  have a_w1 := b_w1
  have r0_w1 := own_row s0_w1
  have f0_w1 := own_free s0_w1
  have l0_w1 := own_lt s0_w1
  have z_w1 := b_w1.below.size
  refine (HPL.out _ b_w1).mono ?_
  rintro e w2 ⟨A, B, ca, cb, rfl, b_w2, hp, hq⟩
  have s0_w2 := any_own b_w2 s0_w1
  have r0_w2 := own_row s0_w2
  have HP := Lib.hid hp
  have HQ := Lib.hid hq
  have HA2 := Lib.hid (b_w1.trans b_w2)
  have a_w2 := HA2.out
  clear hp hq b_w2
  go_wp2_with fail
  go_loopg [7, 8] m (fun kk bv iv wr => AnyLater w2 wr ∧ ∃ j : Nat, kk = m - j ∧ (0 < m → j < m) ∧ (m = 0 → j = 0) ∧ iv = .int .i64 ((j : Int) + 1) ∧ bv = .int .i64 (nbest (placesL r) r.xs x j : Int))
  case atStart => exact ⟨AnyLater.refl _, 0, by omega, fun h => h, fun _ => rfl, rfl, rfl⟩
  case round =>
    obtain ⟨a_wr, j, hk, hj, hj0, rfl, rfl⟩ := hrel
    have HA := Lib.hid a_wr
    have hnb := nbest_le (placesL r) r.xs x j
    have HST := Lib.hid (nbest_succ (placesL r) r.xs x j)
    obtain ⟨q, hq⟩ : ∃ q, nbest (placesL r) r.xs x j = q := ⟨_, rfl⟩
    have HQB := Lib.hid hq
    rw [hq] at hnb HST ⊢
    clear hq
    by_cases hlt : j + 1 < m
    · have i0 : (j : Int) + 1 < (m : Int) := by omega
      have lj : j + 1 < (placesL r).length := by rw [HM.out]; exact hlt
      have lq : q < (placesL r).length := by rw [HM.out]; omega
      have hXl : (r.xs.take m).length = m := by rw [List.length_take, HN2.out]; omega
      have lj2 : j + 1 < (r.xs.take m).length := by rw [hXl]; exact hlt
      have lq2 : q < (r.xs.take m).length := by rw [hXl]; omega
      have g1 : (r.xs.take m)[j + 1] = r.xs.getD (j + 1) 0 := by rw [getD_at (by rw [HN2.out]; omega), List.getElem_take]
      have g2 : (r.xs.take m)[q] = r.xs.getD q 0 := by rw [getD_at (by rw [HN2.out]; omega), List.getElem_take]
      obtain ⟨b, off, rfl, hb, c0⟩ := numAt (HP.out.later a_wr) (j + 1) lj
      obtain ⟨b', off', eb, -, c1⟩ := numAt (HP.out.later a_wr) q lq
      cases eb
      obtain ⟨b2, off2, rfl, hb2, d0⟩ := numAt (HQ.out.later a_wr) (j + 1) lj2
      obtain ⟨b2', off2', eb, -, d1⟩ := numAt (HQ.out.later a_wr) q lq2
      cases eb
      rw [← getD_at lj] at c0
      rw [← getD_at lq] at c1
      rw [g1] at d0
      rw [g2] at d1
      have HG1 := Lib.hid (fun w => HG.out (j + 1) w)
      have HG0 := Lib.hid (fun w => HG.out q w)
      obtain ⟨G1, hG1⟩ : ∃ G, gapZ (r.xs.getD (j + 1) 0) x = G := ⟨_, rfl⟩
      obtain ⟨G0, hG0⟩ : ∃ G, gapZ (r.xs.getD q 0) x = G := ⟨_, rfl⟩
      obtain ⟨p1, p2⟩ := HGI.out (j + 1)
      obtain ⟨p3, p4⟩ := HGI.out q
      obtain ⟨t1, t2⟩ := HPO.out (j + 1)
      obtain ⟨t3, t4⟩ := HPO.out q
      obtain ⟨y1, y2⟩ := HXO.out (j + 1)
      obtain ⟨y3, y4⟩ := HXO.out q
      rw [hG1] at HG1 p1 p2 HST
      rw [hG0] at HG0 p3 p4 HST
      obtain ⟨P1, hP1⟩ : ∃ P, (placesL r).getD (j + 1) 0 = P := ⟨_, rfl⟩
      obtain ⟨P0, hP0⟩ : ∃ P, (placesL r).getD q 0 = P := ⟨_, rfl⟩
      obtain ⟨X1, hX1⟩ : ∃ P, r.xs.getD (j + 1) 0 = P := ⟨_, rfl⟩
      obtain ⟨X0, hX0⟩ : ∃ P, r.xs.getD q 0 = P := ⟨_, rfl⟩
      rw [hP1] at c0 t1 t2 HST
      rw [hP0] at c1 t3 t4 HST
      rw [hX1] at d0 y1 y2 HG1
      rw [hX0] at d1 y3 y4 HG0
      clear hG1 hG0 hP1 hP0 hX1 hX0 g1 g2 hXl
      have hway : (decide (G1 < G0) = true ∧ nbest (placesL r) r.xs x (j + 1) = j + 1) ∨
          (decide (G1 < G0) = false ∧ (G1 == G0) = true ∧ decide (P1 < P0) = true ∧ nbest (placesL r) r.xs x (j + 1) = j + 1) ∨
          (decide (G1 < G0) = false ∧ (G1 == G0) = true ∧ decide (P1 < P0) = false ∧ nbest (placesL r) r.xs x (j + 1) = q) ∨
          (decide (G1 < G0) = false ∧ (G1 == G0) = false ∧ nbest (placesL r) r.xs x (j + 1) = q) := by
        have hst := HST.out
        by_cases h1 : G1 < G0
        · rw [if_pos (.inl h1)] at hst
          exact .inl ⟨decide_eq_true h1, hst⟩
        · right
          by_cases h2 : G1 = G0
          · by_cases h3 : P1 < P0
            · rw [if_pos (.inr ⟨h2, h3⟩)] at hst
              exact .inl ⟨decide_eq_false h1, by simpa using h2, decide_eq_true h3, hst⟩
            · rw [if_neg (fun h => h.elim h1 (fun h => h3 h.2))] at hst
              exact .inr (.inl ⟨decide_eq_false h1, by simpa using h2, decide_eq_false h3, hst⟩)
          · rw [if_neg (fun h => h.elim h1 (fun h => h2 h.1))] at hst
            exact .inr (.inr ⟨decide_eq_false h1, by simpa using h2, hst⟩)
      have e0 : ((j : Int) + 1).toNat = j + 1 := by omega
      have c0' := c0
      rcases hway with ⟨e1, h⟩ | ⟨e1, e2, e3, h⟩ | ⟨e1, e2, e3, h⟩ | ⟨e1, e2, h⟩
      · have HH := Lib.hid h
        clear h
        go_wp2_with fail
        apply wp_region_free (39) [⟨5, 25, .int .u64 G1, false, fun v _ => v = .int .u64 G1⟩, ⟨11, 31, .int .u64 G0, false, fun v _ => v = .int .u64 G0⟩] [] rfl (by kernel_rfl) (by kernel_rfl) (by kernel_rfl) (by simp) (by kernel_rfl)
        case hstab =>
          intro c hc
          simp only [List.mem_cons, List.not_mem_nil, or_false] at hc
          rcases hc with rfl | rfl
          · intro v x y hxy hv; exact hv
          · intro v x y hxy hv; exact hv
        case hfix =>
          intro c hc
          simp only [List.mem_cons, List.not_mem_nil, or_false] at hc
          rcases hc with rfl | rfl
          · exact .inr fun u x h => h
          · exact .inr fun u x h => h
        case hlex =>
          intro U hU
          have q_c0 := cell_on hU c0
          have q_c1 := cell_on hU c1
          have q_d0 := cell_on hU d0
          have q_d1 := cell_on hU d1
          simp only [List.map_cons, List.map_nil, CA.act, actFrom, actOp, List.lookup, Nat.reduceBEq, Nat.reduceLeDiff, Nat.reduceAdd, if_false, if_true]
          repeat (go_big_quiet_step (first | fail))
          exact wpQuiet_nil rfl
        case hstep =>
          intro j hj o ho
          have hj2 : j = 0 ∨ j = 1 := by simp at hj; omega
          rcases hj2 with rfl | rfl
          · cases ho
            refine ⟨rfl, fun g x hx hp => ?_⟩
            clear hp
            simp only [fillAll, Act.put, List.setIfInBounds_toArray, List.set_cons_zero, List.set_cons_succ]
            refine chain_go ?_ (free_fix (HG1.out x))
            first | (simp [go_sem, execOp]; done) | simp [go_sem, execOp, hcf]
          · cases ho
            refine ⟨rfl, fun g x hx hp => ?_⟩
            clear hp
            simp only [fillAll, Act.put, List.setIfInBounds_toArray, List.set_cons_zero, List.set_cons_succ]
            refine chain_go ?_ (free_fix (HG0.out x))
            first | (simp [go_sem, execOp]; done) | simp [go_sem, execOp, hcf]
        case htail =>
          intro g u hst hne
          have b_w3 : AnyLater wr (later u) := ⟨u, rfl⟩
          generalize later u = w3 at *
          clear u
          clear hst hne
          simp only [fillAll, Act.put, List.setIfInBounds_toArray, List.set_cons_zero, List.set_cons_succ, List.drop_succ_cons, List.drop_zero, List.drop_nil]
          have z_w3 := b_w3.below.size
          have a_w3 := a_wr.trans b_w3
          have c0_w3 := cell_on b_w3 c0
          have c1_w3 := cell_on b_w3 c1
          have d0_w3 := cell_on b_w3 d0
          have d1_w3 := cell_on b_w3 d1
          go_wp2_with fail
          go_roundg (m - (j + 1))
          case measure => omega
          case rel => exact ⟨a_w3, j + 1, rfl, fun _ => hlt, fun h => by omega, by go_num, by rw [HH.out]; rfl⟩
      · have HH := Lib.hid h
        clear h
        go_wp2_with fail
        apply wp_region_free (39) [⟨5, 25, .int .u64 G1, false, fun v _ => v = .int .u64 G1⟩, ⟨11, 31, .int .u64 G0, false, fun v _ => v = .int .u64 G0⟩, ⟨19, 39, .int .u64 G1, false, fun v _ => v = .int .u64 G1⟩, ⟨25, 45, .int .u64 G0, false, fun v _ => v = .int .u64 G0⟩] [] rfl (by kernel_rfl) (by kernel_rfl) (by kernel_rfl) (by simp) (by kernel_rfl)
        case hstab =>
          intro c hc
          simp only [List.mem_cons, List.not_mem_nil, or_false] at hc
          rcases hc with rfl | rfl | rfl | rfl
          · intro v x y hxy hv; exact hv
          · intro v x y hxy hv; exact hv
          · intro v x y hxy hv; exact hv
          · intro v x y hxy hv; exact hv
        case hfix =>
          intro c hc
          simp only [List.mem_cons, List.not_mem_nil, or_false] at hc
          rcases hc with rfl | rfl | rfl | rfl
          · exact .inr fun u x h => h
          · exact .inr fun u x h => h
          · exact .inr fun u x h => h
          · exact .inr fun u x h => h
        case hlex =>
          intro U hU
          have q_c0 := cell_on hU c0
          have q_c1 := cell_on hU c1
          have q_d0 := cell_on hU d0
          have q_d1 := cell_on hU d1
          simp only [List.map_cons, List.map_nil, CA.act, actFrom, actOp, List.lookup, Nat.reduceBEq, Nat.reduceLeDiff, Nat.reduceAdd, if_false, if_true]
          repeat (go_big_quiet_step (first | fail))
          exact wpQuiet_nil rfl
        case hstep =>
          intro j hj o ho
          have hj2 : j = 0 ∨ j = 1 ∨ j = 2 ∨ j = 3 := by simp at hj; omega
          rcases hj2 with rfl | rfl | rfl | rfl
          · cases ho
            refine ⟨rfl, fun g x hx hp => ?_⟩
            clear hp
            simp only [fillAll, Act.put, List.setIfInBounds_toArray, List.set_cons_zero, List.set_cons_succ]
            refine chain_go ?_ (free_fix (HG1.out x))
            first | (simp [go_sem, execOp]; done) | simp [go_sem, execOp, hcf]
          · cases ho
            refine ⟨rfl, fun g x hx hp => ?_⟩
            clear hp
            simp only [fillAll, Act.put, List.setIfInBounds_toArray, List.set_cons_zero, List.set_cons_succ]
            refine chain_go ?_ (free_fix (HG0.out x))
            first | (simp [go_sem, execOp]; done) | simp [go_sem, execOp, hcf]
          · cases ho
            refine ⟨rfl, fun g x hx hp => ?_⟩
            clear hp
            simp only [fillAll, Act.put, List.setIfInBounds_toArray, List.set_cons_zero, List.set_cons_succ]
            refine chain_go ?_ (free_fix (HG1.out x))
            first | (simp [go_sem, execOp]; done) | simp [go_sem, execOp, hcf]
          · cases ho
            refine ⟨rfl, fun g x hx hp => ?_⟩
            clear hp
            simp only [fillAll, Act.put, List.setIfInBounds_toArray, List.set_cons_zero, List.set_cons_succ]
            refine chain_go ?_ (free_fix (HG0.out x))
            first | (simp [go_sem, execOp]; done) | simp [go_sem, execOp, hcf]
        case htail =>
          intro g u hst hne
          have b_w3 : AnyLater wr (later u) := ⟨u, rfl⟩
          generalize later u = w3 at *
          clear u
          clear hst hne
          simp only [fillAll, Act.put, List.setIfInBounds_toArray, List.set_cons_zero, List.set_cons_succ, List.drop_succ_cons, List.drop_zero, List.drop_nil]
          have z_w3 := b_w3.below.size
          have a_w3 := a_wr.trans b_w3
          have c0_w3 := cell_on b_w3 c0
          have c1_w3 := cell_on b_w3 c1
          have d0_w3 := cell_on b_w3 d0
          have d1_w3 := cell_on b_w3 d1
          go_wp2_with fail
          go_roundg (m - (j + 1))
          case measure => omega
          case rel => exact ⟨a_w3, j + 1, rfl, fun _ => hlt, fun h => by omega, by go_num, by rw [HH.out]; rfl⟩
      · have HH := Lib.hid h
        clear h
        go_wp2_with fail
        apply wp_region_free (39) [⟨5, 25, .int .u64 G1, false, fun v _ => v = .int .u64 G1⟩, ⟨11, 31, .int .u64 G0, false, fun v _ => v = .int .u64 G0⟩, ⟨19, 39, .int .u64 G1, false, fun v _ => v = .int .u64 G1⟩, ⟨25, 45, .int .u64 G0, false, fun v _ => v = .int .u64 G0⟩] [] rfl (by kernel_rfl) (by kernel_rfl) (by kernel_rfl) (by simp) (by kernel_rfl)
        case hstab =>
          intro c hc
          simp only [List.mem_cons, List.not_mem_nil, or_false] at hc
          rcases hc with rfl | rfl | rfl | rfl
          · intro v x y hxy hv; exact hv
          · intro v x y hxy hv; exact hv
          · intro v x y hxy hv; exact hv
          · intro v x y hxy hv; exact hv
        case hfix =>
          intro c hc
          simp only [List.mem_cons, List.not_mem_nil, or_false] at hc
          rcases hc with rfl | rfl | rfl | rfl
          · exact .inr fun u x h => h
          · exact .inr fun u x h => h
          · exact .inr fun u x h => h
          · exact .inr fun u x h => h
        case hlex =>
          intro U hU
          have q_c0 := cell_on hU c0
          have q_c1 := cell_on hU c1
          have q_d0 := cell_on hU d0
          have q_d1 := cell_on hU d1
          simp only [List.map_cons, List.map_nil, CA.act, actFrom, actOp, List.lookup, Nat.reduceBEq, Nat.reduceLeDiff, Nat.reduceAdd, if_false, if_true]
          repeat (go_big_quiet_step (first | fail))
          exact wpQuiet_nil rfl
        case hstep =>
          intro j hj o ho
          have hj2 : j = 0 ∨ j = 1 ∨ j = 2 ∨ j = 3 := by simp at hj; omega
          rcases hj2 with rfl | rfl | rfl | rfl
          · cases ho
            refine ⟨rfl, fun g x hx hp => ?_⟩
            clear hp
            simp only [fillAll, Act.put, List.setIfInBounds_toArray, List.set_cons_zero, List.set_cons_succ]
            refine chain_go ?_ (free_fix (HG1.out x))
            first | (simp [go_sem, execOp]; done) | simp [go_sem, execOp, hcf]
          · cases ho
            refine ⟨rfl, fun g x hx hp => ?_⟩
            clear hp
            simp only [fillAll, Act.put, List.setIfInBounds_toArray, List.set_cons_zero, List.set_cons_succ]
            refine chain_go ?_ (free_fix (HG0.out x))
            first | (simp [go_sem, execOp]; done) | simp [go_sem, execOp, hcf]
          · cases ho
            refine ⟨rfl, fun g x hx hp => ?_⟩
            clear hp
            simp only [fillAll, Act.put, List.setIfInBounds_toArray, List.set_cons_zero, List.set_cons_succ]
            refine chain_go ?_ (free_fix (HG1.out x))
            first | (simp [go_sem, execOp]; done) | simp [go_sem, execOp, hcf]
          · cases ho
            refine ⟨rfl, fun g x hx hp => ?_⟩
            clear hp
            simp only [fillAll, Act.put, List.setIfInBounds_toArray, List.set_cons_zero, List.set_cons_succ]
            refine chain_go ?_ (free_fix (HG0.out x))
            first | (simp [go_sem, execOp]; done) | simp [go_sem, execOp, hcf]
        case htail =>
          intro g u hst hne
          have b_w3 : AnyLater wr (later u) := ⟨u, rfl⟩
          generalize later u = w3 at *
          clear u
          clear hst hne
          simp only [fillAll, Act.put, List.setIfInBounds_toArray, List.set_cons_zero, List.set_cons_succ, List.drop_succ_cons, List.drop_zero, List.drop_nil]
          have z_w3 := b_w3.below.size
          have a_w3 := a_wr.trans b_w3
          have c0_w3 := cell_on b_w3 c0
          have c1_w3 := cell_on b_w3 c1
          have d0_w3 := cell_on b_w3 d0
          have d1_w3 := cell_on b_w3 d1
          go_wp2_with fail
          go_roundg (m - (j + 1))
          case measure => omega
          case rel => exact ⟨a_w3, j + 1, rfl, fun _ => hlt, fun h => by omega, by go_num, by rw [HH.out]⟩
      · have HH := Lib.hid h
        clear h
        go_wp2_with fail
        apply wp_region_free (39) [⟨5, 25, .int .u64 G1, false, fun v _ => v = .int .u64 G1⟩, ⟨11, 31, .int .u64 G0, false, fun v _ => v = .int .u64 G0⟩, ⟨19, 39, .int .u64 G1, false, fun v _ => v = .int .u64 G1⟩, ⟨25, 45, .int .u64 G0, false, fun v _ => v = .int .u64 G0⟩] [] rfl (by kernel_rfl) (by kernel_rfl) (by kernel_rfl) (by simp) (by kernel_rfl)
        case hstab =>
          intro c hc
          simp only [List.mem_cons, List.not_mem_nil, or_false] at hc
          rcases hc with rfl | rfl | rfl | rfl
          · intro v x y hxy hv; exact hv
          · intro v x y hxy hv; exact hv
          · intro v x y hxy hv; exact hv
          · intro v x y hxy hv; exact hv
        case hfix =>
          intro c hc
          simp only [List.mem_cons, List.not_mem_nil, or_false] at hc
          rcases hc with rfl | rfl | rfl | rfl
          · exact .inr fun u x h => h
          · exact .inr fun u x h => h
          · exact .inr fun u x h => h
          · exact .inr fun u x h => h
        case hlex =>
          intro U hU
          have q_c0 := cell_on hU c0
          have q_c1 := cell_on hU c1
          have q_d0 := cell_on hU d0
          have q_d1 := cell_on hU d1
          simp only [List.map_cons, List.map_nil, CA.act, actFrom, actOp, List.lookup, Nat.reduceBEq, Nat.reduceLeDiff, Nat.reduceAdd, if_false, if_true]
          repeat (go_big_quiet_step (first | fail))
          exact wpQuiet_nil rfl
        case hstep =>
          intro j hj o ho
          have hj2 : j = 0 ∨ j = 1 ∨ j = 2 ∨ j = 3 := by simp at hj; omega
          rcases hj2 with rfl | rfl | rfl | rfl
          · cases ho
            refine ⟨rfl, fun g x hx hp => ?_⟩
            clear hp
            simp only [fillAll, Act.put, List.setIfInBounds_toArray, List.set_cons_zero, List.set_cons_succ]
            refine chain_go ?_ (free_fix (HG1.out x))
            first | (simp [go_sem, execOp]; done) | simp [go_sem, execOp, hcf]
          · cases ho
            refine ⟨rfl, fun g x hx hp => ?_⟩
            clear hp
            simp only [fillAll, Act.put, List.setIfInBounds_toArray, List.set_cons_zero, List.set_cons_succ]
            refine chain_go ?_ (free_fix (HG0.out x))
            first | (simp [go_sem, execOp]; done) | simp [go_sem, execOp, hcf]
          · cases ho
            refine ⟨rfl, fun g x hx hp => ?_⟩
            clear hp
            simp only [fillAll, Act.put, List.setIfInBounds_toArray, List.set_cons_zero, List.set_cons_succ]
            refine chain_go ?_ (free_fix (HG1.out x))
            first | (simp [go_sem, execOp]; done) | simp [go_sem, execOp, hcf]
          · cases ho
            refine ⟨rfl, fun g x hx hp => ?_⟩
            clear hp
            simp only [fillAll, Act.put, List.setIfInBounds_toArray, List.set_cons_zero, List.set_cons_succ]
            refine chain_go ?_ (free_fix (HG0.out x))
            first | (simp [go_sem, execOp]; done) | simp [go_sem, execOp, hcf]
        case htail =>
          intro g u hst hne
          have b_w3 : AnyLater wr (later u) := ⟨u, rfl⟩
          generalize later u = w3 at *
          clear u
          clear hst hne
          simp only [fillAll, Act.put, List.setIfInBounds_toArray, List.set_cons_zero, List.set_cons_succ, List.drop_succ_cons, List.drop_zero, List.drop_nil]
          have z_w3 := b_w3.below.size
          have a_w3 := a_wr.trans b_w3
          have c0_w3 := cell_on b_w3 c0
          have c1_w3 := cell_on b_w3 c1
          have d0_w3 := cell_on b_w3 d0
          have d1_w3 := cell_on b_w3 d1
          go_wp2_with fail
          go_roundg (m - (j + 1))
          case measure => omega
          case rel => exact ⟨a_w3, j + 1, rfl, fun _ => hlt, fun h => by omega, by go_num, by rw [HH.out]⟩
    · have e1 : (j : Int) + 1 < (m : Int) → False := fun h => by omega
      have i0 : decide ((j : Int) + 1 < (m : Int)) = false := decide_eq_false e1
      have s0_wr := any_own a_wr s0_w2
      have r0_wr := own_row s0_wr
      rcases HF.out with ⟨h0, h1⟩ | ⟨h0, h1⟩
      · subst h0
        have HC := Lib.hid h1
        clear h1 a_wr e1
        go_wp2_with fail
        go_ret
        exact ⟨ret_i64 HC.out, HA2.out.trans HA.out⟩
      · have e2 : j = m - 1 := by have := hj h0; omega
        rw [← e2, HQB.out] at h1
        have lq : q < (placesL r).length := by rw [HM.out]; omega
        have m0 : ((m : Int) == 0) = false := by simp; omega
        have i1 : (q : Int) < (m : Int) := by omega
        obtain ⟨b, off, rfl, hb, c0⟩ := numAt (HP.out.later a_wr) q lq
        rw [← getD_at lq, h1] at c0
        clear h1 a_wr e1 e2
        go_wp2_with fail
        go_ret
        exact ⟨rfl, HA2.out.trans HA.out⟩
end Go.Proofs.YteplnejnhgmfiaaDoor
