/- wrap: the program's Rows, by contract. -/
import Derived.Test.YteplnejnhgmfiaaDoorWrpA
import Derived.Test.YteplnejnhgmfiaaDoorFree
import Derived.Deep.LoopGhost
import Derived.Deep.OwnRows
import Derived.Deep.QuietTactic
import Derived.Deep.CutBlock
namespace Go.Proofs.YteplnejnhgmfiaaDoor
set_option linter.unusedSimpArgs false
set_option linter.unusedVariables false
set_option linter.unusedSectionVars false
open Go.RowKit

theorem wrun_max {P : Program} (w : World) (ts : Array TypeId) (t : TypeId) (p q : Int) : (Builtin.max_ ts t #[.int .i64 p, .int .i64 q]).run P w = .ok (.int .i64 (max p q)) w := by
  rw [run_max_int2]
  split
  · rw [Int.max_eq_right (by omega)]
  · rw [Int.max_eq_left (by omega)]
set_option maxRecDepth 100000 in
set_option maxHeartbeats 1600000 in
theorem wrows_any (v : Value) (l : Cels) (x : Int) (w : World) (hv : FR celF w v l) (hN : CelsOk l) (hl : l.length ≤ 4000) (hx : I64s x) :
    Calls Tryd.prog 28 #[v, .int .i64 x] w fun e w' => ∃ u, e = .returned u ∧ AnyLater w w' ∧ OF rowF 59 w' w.heap.size u (rowsW l x) := by
  obtain ⟨A, cap, rfl, hc⟩ := hv.form
  have HV := Lib.hid hv
  have HNN := Lib.hid hN
  have hmx : ∀ (w : World) (ts : Array TypeId) (t : TypeId), (Builtin.max_ ts t #[.int .i64 x, .int .i64 1]).run Tryd.prog w = .ok (.int .i64 (max x 1)) w := fun w ts t => wrun_max w ts t x 1
  obtain ⟨m, hm⟩ : ∃ m, max x 1 = m := ⟨_, rfl⟩
  have m1 : 1 ≤ m := by omega
  have m2 : m ≤ 9223372036854775807 := by have := hx.2; omega
  obtain ⟨ALL, hall⟩ : ∃ ALL, rowsW l x = ALL := ⟨_, rfl⟩
  have HALL : Hid (wRows l m (l.length + 1) 0 = ALL) := Lib.hid (by rw [← hall, ← hm]; rfl)
  rw [hm] at hmx
  rw [hall]
  obtain ⟨n, hn⟩ : ∃ n, l.length = n := ⟨_, rfl⟩
  have HL := Lib.hid hn
  rw [hn] at HV HALL hc hl ⊢
  clear hv hN hn hm hall hx
  go_enter Tryd.func28, Tryd.ntmps28
  go_wp2_with fail
  go_step3
  go_wp2_with fail
  go_step3
  go_wp2_with fail
  go_loopg [5, 6] (n + 1) (fun kk sv fv wr => AnyLater w wr ∧ ∃ (f : Nat) (D : Rws), fv = .int .i64 f ∧ f ≤ n ∧ n + 1 ≤ kk + f ∧ D.length + kk ≤ n + 1 ∧ OF rowF 59 wr w.heap.size sv D ∧ D ++ wRows l m kk f = ALL)
  case atStart => exact ⟨AnyLater.refl _, 0, [], rfl, by omega, by omega, by simp, OF.nil _ _ _, HALL.out⟩
  case round =>
    obtain ⟨a_wr, f, D, rfl, hf, hk, hD, ho, hall⟩ := hrel
    have HA := Lib.hid a_wr
    have HO := Lib.hid ho
    obtain ⟨gg, rfl⟩ : ∃ gg, gk = gg + 1 := ⟨gk - 1, by omega⟩
    rw [wRows_succ] at hall
    have HALL2 := Lib.hid hall
    obtain ⟨A3, c3, rfl, h3⟩ := ho.form
    obtain ⟨T, hT⟩ : ∃ T, wStop l m f (n - f) f = T := ⟨_, rfl⟩
    have HT := Lib.hid hT
    clear ho hall hT
    generalize wr = wo at *
    have a_wo := a_wr
    clear a_wr
    go_wp2_with fail
    first | refine settle_wp (fun wS => AnyLater wo wS ∧ wS.heap[wo.heap.size]? = some (.cells #[.int .i64 f, .int .i64 f, .int .i64 0] 59) ∧ wS.heap[wo.heap.size + 1]? = some (.cells #[.int .i64 f, .int .i64 f, .int .i64 0] 59)) ?_ ?_ | refine settle_calls (fun wS => AnyLater wo wS ∧ wS.heap[wo.heap.size]? = some (.cells #[.int .i64 f, .int .i64 f, .int .i64 0] 59) ∧ wS.heap[wo.heap.size + 1]? = some (.cells #[.int .i64 f, .int .i64 f, .int .i64 0] 59)) ?_ ?_
    · refine ⟨?_, ?_, ?_⟩
      · repeat' (first | with_reducible assumption | with_reducible exact AnyLater.refl _ | with_reducible apply AnyLater.setCell | with_reducible apply AnyLater.later | with_reducible apply AnyLater.drewN | with_reducible apply AnyLater.drew | with_reducible apply AnyLater.alloc | ((try simp only [World.size_alloc, World.size_setCell, World.size_drew]); (try dsimp only); omega))
      · ((repeat (first | with_reducible assumption | ((with_reducible apply heap_new); (try simp only [World.size_alloc, World.size_setCell, World.size_drew, World.heap_drewN]); done) | ((with_reducible apply heap_new); (try simp only [World.size_alloc, World.size_setCell, World.size_drew, World.heap_drewN]); omega) | (with_reducible refine heap_old (by (try simp only [World.size_alloc, World.size_setCell, World.size_drew, World.heap_drewN]); omega) ?_) | (with_reducible refine heap_drew ?_) | (with_reducible refine heap_far (by omega) ?_) | (with_reducible apply heap_at))); all_goals rfl)
      · ((repeat (first | with_reducible assumption | ((with_reducible apply heap_new); (try simp only [World.size_alloc, World.size_setCell, World.size_drew, World.heap_drewN]); done) | ((with_reducible apply heap_new); (try simp only [World.size_alloc, World.size_setCell, World.size_drew, World.heap_drewN]); omega) | (with_reducible refine heap_old (by (try simp only [World.size_alloc, World.size_setCell, World.size_drew, World.heap_drewN]); omega) ?_) | (with_reducible refine heap_drew ?_) | (with_reducible refine heap_far (by omega) ?_) | (with_reducible apply heap_at))); all_goals rfl)
    rintro w1 ⟨b_w1, s0_w1, s1_w1⟩
    have a_w1 := a_wo.trans b_w1
    have r0_w1 := own_row s0_w1
    have f0_w1 := own_free s0_w1
    have l0_w1 := own_lt s0_w1
    have r1_w1 := own_row s1_w1
    have f1_w1 := own_free s1_w1
    have l1_w1 := own_lt s1_w1
    have z_w1 := b_w1.below.size
    obtain ⟨p, hp⟩ : ∃ p, wo.heap.size = p := ⟨_, rfl⟩
    have HP := Lib.hid hp
    rw [hp] at s0_w1 s1_w1 r0_w1 r1_w1 f0_w1 f1_w1 l0_w1 l1_w1 z_w1 ⊢
    have hpz : wo.heap.size ≤ p := by omega
    clear hp
    go_loopg [5, 6, 9] (n - f) (fun kk sv fv iv ws => AnyLater wo ws ∧ sv = .slice A3 D.length c3 ∧ fv = .int .i64 f ∧ ∃ (i k : Nat), kk = n - i ∧ f ≤ i ∧ i ≤ n ∧ iv = .int .i64 i ∧ wLast l f i = k ∧ wStop l m f (n - i) i = T ∧ ws.heap[p]? = some (.cells #[.int .i64 f, .int .i64 i, .int .i64 (wEnd l f i)] 59) ∧ ws.heap[p + 1]? = some (.cells #[.int .i64 f, .int .i64 k, .int .i64 (wEnd l f k)] 59))
    case atStart => exact ⟨b_w1, rfl, rfl, f, f, rfl, Nat.le_refl _, hf, rfl, wLast_self _ _, HT.out, by rw [wEnd_self]; exact s0_w1, by rw [wEnd_self]; exact s1_w1⟩
    case round =>
      obtain ⟨a_wr, rfl, rfl, i, k, hki, hfi, hin, rfl, hlast, hstop, s0_wr, s1_wr⟩ := hrel
      have r0_wr := own_row s0_wr
      have r1_wr := own_row s1_wr
      have f0_wr := own_free s0_wr
      have f1_wr := own_free s1_wr
      have l0_wr := own_lt s0_wr
      have l1_wr := own_lt s1_wr
      have HLS := Lib.hid hlast
      have HST := Lib.hid hstop
      have hkb := wLast_in l f i
      rw [hlast] at hkb
      have hEb := wEnd_in l f i
      obtain ⟨E, hE⟩ : ∃ E, wEnd l f i = E := ⟨_, rfl⟩
      obtain ⟨Ek, hEk⟩ : ∃ Ek, wEnd l f k = Ek := ⟨_, rfl⟩
      have HE := Lib.hid hE
      have HEK := Lib.hid hEk
      rw [hE] at hEb s0_wr r0_wr
      rw [hEk] at s1_wr r1_wr
      obtain ⟨E0, E1⟩ := hEb
      clear hlast hstop hE hEk
      by_cases hlt : i < n
      · have lj : i < l.length := by rw [HL.out]; exact hlt
        have i0 : (i : Int) < (n : Int) := by omega
        have hS := wEnd_succ hfi lj
        have hB := wBl_at lj
        obtain ⟨b, off, rfl, hb, c0, c1, c2, c3⟩ := celAt (HV.out.later (HA.out.trans a_wr)) i lj
        have hok := HNN.out l[i] (List.getElem_mem lj)
        obtain ⟨cel, hcel⟩ : ∃ cel, l[i] = cel := ⟨_, rfl⟩
        have HCEL := Lib.hid hcel
        rw [hcel] at c0 c1 c2 c3 hok hS hB
        have HS := Lib.hid hS
        have HB := Lib.hid hB
        clear hS hB
        clear hcel
        obtain ⟨ca, cn, cr, cs⟩ := cel
        simp only at c0 c1 c2 c3
        obtain ⟨-, -, hr, hs⟩ := hok
        obtain ⟨y, hy⟩ : ∃ y, widR cr cs E = y := ⟨_, rfl⟩
        have hyb := widR_in cr cs E
        rw [hy] at hyb
        obtain ⟨y0, y1⟩ := hyb
        have HW := Lib.hid (fun w => cwidth_any ca cn cr cs E w y hy hr hs (by constructor <;> omega))
        have HS2 : Hid (wEnd l f (i + 1) = E + y) := Lib.hid (by rw [HS.out, HE.out, ← hy]; rfl)
        clear hy hr hs HS
        go_wp2_with fail
        apply wp_region_free (11) [⟨8, 32, .int .i64 y, false, fun v _ => v = .int .i64 y⟩] [] rfl (by kernel_rfl) (by kernel_rfl) (by kernel_rfl) (by simp) (by kernel_rfl)
        case hstab =>
          intro c hc
          simp only [List.mem_cons, List.not_mem_nil, or_false] at hc
          rcases hc with rfl
          · intro v x y hxy hv; exact hv
        case hfix =>
          intro c hc
          simp only [List.mem_cons, List.not_mem_nil, or_false] at hc
          rcases hc with rfl
          · exact .inr fun u x h => h
        case hlex =>
          intro U hU
          have q0 := own_row (any_own hU s0_wr)
          have q1 := own_row (any_own hU s1_wr)
          have q_c0 := cell_on hU c0
          have q_c1 := cell_on hU c1
          have q_c2 := cell_on hU c2
          have q_c3 := cell_on hU c3
          simp only [List.map_cons, List.map_nil, CA.act, actFrom, actOp, List.lookup, Nat.reduceBEq, Nat.reduceLeDiff, Nat.reduceAdd, if_false, if_true]
          repeat (go_big_quiet_step (first | fail))
          exact wpQuiet_nil rfl
        case hstep =>
          intro j hj o ho
          have hj2 : j = 0 := by simp at hj; omega
          rcases hj2 with rfl
          · cases ho
            refine ⟨rfl, fun g x hx hp => ?_⟩
            clear hp
            simp only [fillAll, Act.put, List.setIfInBounds_toArray, List.set_cons_zero, List.set_cons_succ]
            refine chain_go ?_ (free_fix (HW.out x))
            first | (simp [go_sem, execOp]; done) | simp [go_sem, execOp, hcf]
        case htail =>
          intro g u hst hne
          have b_w2 : AnyLater wr (later u) := ⟨u, rfl⟩
          generalize later u = w2 at *
          clear u
          clear hst hne
          simp only [fillAll, Act.put, List.setIfInBounds_toArray, List.set_cons_zero, List.set_cons_succ, List.drop_succ_cons, List.drop_zero, List.drop_nil]
          have z_w2 := b_w2.below.size
          have a_w2 := a_wr.trans b_w2
          have s0_w2 := any_own b_w2 s0_wr
          have s1_w2 := any_own b_w2 s1_wr
          have r0_w2 := own_row s0_w2
          have f0_w2 := own_free s0_w2
          have l0_w2 := own_lt s0_w2
          have r1_w2 := own_row s1_w2
          have f1_w2 := own_free s1_w2
          have l1_w2 := own_lt s1_w2
          (try clear r0_wr); (try clear f0_wr)
          (try clear r1_wr); (try clear f1_wr)
          have c0_w2 := cell_on b_w2 c0
          have c1_w2 := cell_on b_w2 c1
          have c2_w2 := cell_on b_w2 c2
          have c3_w2 := cell_on b_w2 c3
          have a_w2o := a_w2
          clear c0 c1 c2 c3
          by_cases hleave : m < E + y ∧ f < i
          · obtain ⟨hm, hfi2⟩ := hleave
            have d1 : decide (m < E + y) = true := decide_eq_true hm
            have d2 : decide ((f : Int) < (i : Int)) = true := decide_eq_true (by omega)
            have HTi : Hid (T = i) := Lib.hid (by rw [← HST.out, ← HL.out]; exact wStop_end (by omega) (by rw [HS2.out]; exact hm))
            have HNX : Hid (wNext l m f = wBreak l f i) := Lib.hid (wNext_part (by rw [HL.out, HT.out, HTi.out]) (by rw [HL.out]; exact hlt))
            have HCUT : Hid (∃ K : Nat, wBreak l f i = K ∧ (k = f ∧ K = i ∨ k ≠ f ∧ K = k)) := Lib.hid ⟨_, rfl, by
              unfold wBreak; rw [HLS.out]; by_cases q : k = f
              · rw [if_pos q]; exact .inl ⟨q, rfl⟩
              · rw [if_neg q]; exact .inr ⟨q, rfl⟩⟩
            obtain ⟨K, hK, hKK⟩ := HCUT.out
            have HKN : Hid (wNext l m f = K ∧ f < K ∧ K < n) := Lib.hid ⟨by rw [HNX.out, hK], by have := wBreak_in (l := l) hfi2; omega⟩
            have HROW : Hid (D ++ [((f : Int), (K : Int), wEnd l f K)] ++ wRows l m gg K = ALL) := Lib.hid (by
              have h := HALL2.out
              rw [HKN.out.1, HL.out, if_neg (by have := HKN.out.2.2; omega)] at h
              rw [← h, List.append_assoc]; rfl)
            clear HCUT hK
            obtain ⟨EK, hEK⟩ : ∃ EK, wEnd l f K = EK := ⟨_, rfl⟩
            have HEK2 := Lib.hid hEK
            rw [hEK] at HROW
            clear hEK
            rcases hKK with ⟨q, hKi⟩ | ⟨q, hKi⟩
            · have d3 : ((k : Int) == (f : Int)) = true := by simp [q]
              have HEKE : Hid (E = EK) := Lib.hid (by rw [← HEK2.out, hKi, HE.out])
              have HKI : Hid (K = i) := Lib.hid hKi
              clear q hKi
              go_upto_region 13 with fail
              first | refine settle_wp (fun wS => AnyLater wo wS ∧ wS.heap[p + 1]? = some (.cells #[.int .i64 f, .int .i64 i, .int .i64 E] 59)) ?_ ?_ | refine settle_calls (fun wS => AnyLater wo wS ∧ wS.heap[p + 1]? = some (.cells #[.int .i64 f, .int .i64 i, .int .i64 E] 59)) ?_ ?_
              · refine ⟨?_, ?_⟩
                · repeat' (first | with_reducible assumption | with_reducible exact AnyLater.refl _ | with_reducible apply AnyLater.setCell | with_reducible apply AnyLater.later | with_reducible apply AnyLater.drewN | with_reducible apply AnyLater.drew | with_reducible apply AnyLater.alloc | ((try simp only [World.size_alloc, World.size_setCell, World.size_drew]); (try dsimp only); omega))
                · ((repeat (first | with_reducible assumption | ((with_reducible apply heap_new); (try simp only [World.size_alloc, World.size_setCell, World.size_drew, World.heap_drewN]); done) | ((with_reducible apply heap_new); (try simp only [World.size_alloc, World.size_setCell, World.size_drew, World.heap_drewN]); omega) | (with_reducible refine heap_old (by (try simp only [World.size_alloc, World.size_setCell, World.size_drew, World.heap_drewN]); omega) ?_) | (with_reducible refine heap_drew ?_) | (with_reducible refine heap_far (by omega) ?_) | (with_reducible apply heap_at))); all_goals rfl)
              rintro w3 ⟨b_w3, s0_w3⟩
              have a_w3 := a_wo.trans b_w3
              have r0_w3 := own_row s0_w3
              have f0_w3 := own_free s0_w3
              have l0_w3 := own_lt s0_w3
              have z_w3 := b_w3.below.size
              rw [HEKE.out, ← HKI.out] at s0_w3 r0_w3
              obtain ⟨u2, w4, k1, k2, k3, k4⟩ := appF1 rowFT ((f : Int), (K : Int), EK) (cs := #[.int .i64 (f : Int), .int .i64 (K : Int), .int .i64 EK]) rfl (HO.out.later b_w3) (HA.out.trans b_w3).below.size (by omega)
              have K1 := Lib.hid k1
              have K2 := Lib.hid k2
              have K3 := Lib.hid (k3 w (Nat.le_refl _) (HA.out.trans b_w3))
              have e4 : w4.cell? ⟨p + 1, 1, none⟩ = some (.int .i64 K) := own_row (grown_block k4 (any_own ((AnyLater.refl _).alloc _) s0_w3) (HO.out.under (by omega))) 1
              clear k1 k2 k3 k4
              go_wp2_with (at_builtin; refine Lib.wpList_append_run _ rfl _ _ _ _ rfl _ _ rfl rfl _ _ K1.out ?_)
              go_roundg gg
              case measure => omega
              case rel => exact ⟨K3.out, K, D ++ [((f : Int), (K : Int), EK)], rfl, by have := HKN.out; omega, by have := HKN.out; omega, by rw [List.length_append]; simp; omega, K2.out, HROW.out⟩
            · have d3 : ((k : Int) == (f : Int)) = false := by simpa using (by omega : (k : Int) ≠ (f : Int))
              have HEKE : Hid (Ek = EK) := Lib.hid (by rw [← HEK2.out, hKi, HEK.out])
              have HKI : Hid (K = k) := Lib.hid hKi
              clear q hKi
              go_upto_region 13 with fail
              first | refine settle_wp (fun wS => AnyLater wo wS ∧ wS.heap[p + 1]? = some (.cells #[.int .i64 f, .int .i64 k, .int .i64 Ek] 59)) ?_ ?_ | refine settle_calls (fun wS => AnyLater wo wS ∧ wS.heap[p + 1]? = some (.cells #[.int .i64 f, .int .i64 k, .int .i64 Ek] 59)) ?_ ?_
              · refine ⟨?_, ?_⟩
                · repeat' (first | with_reducible assumption | with_reducible exact AnyLater.refl _ | with_reducible apply AnyLater.setCell | with_reducible apply AnyLater.later | with_reducible apply AnyLater.drewN | with_reducible apply AnyLater.drew | with_reducible apply AnyLater.alloc | ((try simp only [World.size_alloc, World.size_setCell, World.size_drew]); (try dsimp only); omega))
                · ((repeat (first | with_reducible assumption | ((with_reducible apply heap_new); (try simp only [World.size_alloc, World.size_setCell, World.size_drew, World.heap_drewN]); done) | ((with_reducible apply heap_new); (try simp only [World.size_alloc, World.size_setCell, World.size_drew, World.heap_drewN]); omega) | (with_reducible refine heap_old (by (try simp only [World.size_alloc, World.size_setCell, World.size_drew, World.heap_drewN]); omega) ?_) | (with_reducible refine heap_drew ?_) | (with_reducible refine heap_far (by omega) ?_) | (with_reducible apply heap_at))); all_goals rfl)
              rintro w3 ⟨b_w3, s0_w3⟩
              have a_w3 := a_wo.trans b_w3
              have r0_w3 := own_row s0_w3
              have f0_w3 := own_free s0_w3
              have l0_w3 := own_lt s0_w3
              have z_w3 := b_w3.below.size
              rw [HEKE.out, ← HKI.out] at s0_w3 r0_w3
              obtain ⟨u2, w4, k1, k2, k3, k4⟩ := appF1 rowFT ((f : Int), (K : Int), EK) (cs := #[.int .i64 (f : Int), .int .i64 (K : Int), .int .i64 EK]) rfl (HO.out.later b_w3) (HA.out.trans b_w3).below.size (by omega)
              have K1 := Lib.hid k1
              have K2 := Lib.hid k2
              have K3 := Lib.hid (k3 w (Nat.le_refl _) (HA.out.trans b_w3))
              have e4 : w4.cell? ⟨p + 1, 1, none⟩ = some (.int .i64 K) := own_row (grown_block k4 (any_own ((AnyLater.refl _).alloc _) s0_w3) (HO.out.under (by omega))) 1
              clear k1 k2 k3 k4
              go_wp2_with (at_builtin; refine Lib.wpList_append_run _ rfl _ _ _ _ rfl _ _ rfl rfl _ _ K1.out ?_)
              go_roundg gg
              case measure => omega
              case rel => exact ⟨K3.out, K, D ++ [((f : Int), (K : Int), EK)], rfl, by have := HKN.out; omega, by have := HKN.out; omega, by rw [List.length_append]; simp; omega, K2.out, HROW.out⟩
          · have HGO : Hid (wStop l m f (n - (i + 1)) (i + 1) = T) := Lib.hid (by
              rw [← HST.out, ← HL.out]
              exact (wStop_go lj (by rw [HS2.out]; omega)).symm)
            obtain ⟨bl, hbl⟩ : ∃ bl, decide (cr = 9 ∨ cr = 32) = bl := ⟨_, rfl⟩
            have HBL := Lib.hid (fun w => cblank_any ca cn cr cs w bl hbl)
            have HB2 : Hid (wBl l i = bl) := Lib.hid (by rw [HB.out, ← hbl]; rfl)
            clear hbl
            have hcase : decide (m < E + y) = false ∨ decide (m < E + y) = true ∧ decide (f < i) = false := by
              by_cases q : m < E + y
              · exact .inr ⟨decide_eq_true q, decide_eq_false (by omega)⟩
              · exact .inl (decide_eq_false q)
            clear hleave
            rcases hcase with d1 | ⟨d1, d2⟩
            all_goals
              go_upto_region 16 with fail
              first | refine settle_wp (fun wS => AnyLater wo wS ∧ wS.heap[p]? = some (.cells #[.int .i64 f, .int .i64 ((i : Int) + 1), .int .i64 (E + y)] 59) ∧ wS.heap[p + 1]? = some (.cells #[.int .i64 f, .int .i64 k, .int .i64 Ek] 59)) ?_ ?_ | refine settle_calls (fun wS => AnyLater wo wS ∧ wS.heap[p]? = some (.cells #[.int .i64 f, .int .i64 ((i : Int) + 1), .int .i64 (E + y)] 59) ∧ wS.heap[p + 1]? = some (.cells #[.int .i64 f, .int .i64 k, .int .i64 Ek] 59)) ?_ ?_
              · refine ⟨?_, ?_, ?_⟩
                · repeat' (first | with_reducible assumption | with_reducible exact AnyLater.refl _ | with_reducible apply AnyLater.setCell | with_reducible apply AnyLater.later | with_reducible apply AnyLater.drewN | with_reducible apply AnyLater.drew | with_reducible apply AnyLater.alloc | ((try simp only [World.size_alloc, World.size_setCell, World.size_drew]); (try dsimp only); omega))
                · ((repeat (first | with_reducible assumption | ((with_reducible apply heap_new); (try simp only [World.size_alloc, World.size_setCell, World.size_drew, World.heap_drewN]); done) | ((with_reducible apply heap_new); (try simp only [World.size_alloc, World.size_setCell, World.size_drew, World.heap_drewN]); omega) | (with_reducible refine heap_old (by (try simp only [World.size_alloc, World.size_setCell, World.size_drew, World.heap_drewN]); omega) ?_) | (with_reducible refine heap_drew ?_) | (with_reducible refine heap_far (by omega) ?_) | (with_reducible apply heap_at))); all_goals rfl)
                · ((repeat (first | with_reducible assumption | ((with_reducible apply heap_new); (try simp only [World.size_alloc, World.size_setCell, World.size_drew, World.heap_drewN]); done) | ((with_reducible apply heap_new); (try simp only [World.size_alloc, World.size_setCell, World.size_drew, World.heap_drewN]); omega) | (with_reducible refine heap_old (by (try simp only [World.size_alloc, World.size_setCell, World.size_drew, World.heap_drewN]); omega) ?_) | (with_reducible refine heap_drew ?_) | (with_reducible refine heap_far (by omega) ?_) | (with_reducible apply heap_at))); all_goals rfl)
              rintro w3 ⟨b_w3, s0_w3, s1_w3⟩
              have a_w3 := a_wo.trans b_w3
              have r0_w3 := own_row s0_w3
              have f0_w3 := own_free s0_w3
              have l0_w3 := own_lt s0_w3
              have r1_w3 := own_row s1_w3
              have f1_w3 := own_free s1_w3
              have l1_w3 := own_lt s1_w3
              have z_w3 := b_w3.below.size
              obtain ⟨b', off', e', hb', c0, c1, c2, c3⟩ := celAt (HV.out.later (HA.out.trans b_w3)) i lj
              obtain ⟨rfl, rfl⟩ : b' = b ∧ off' = off := by cases e'; exact ⟨rfl, rfl⟩
              rw [HCEL.out] at c0 c1 c2 c3
              simp only at c0 c1 c2 c3
              clear e'
              go_wp2_with fail
              refine (HBL.out _).mono ?_
              rintro e w4 ⟨rfl, b_w4⟩
              have z_w4 := b_w4.below.size
              have a_w4 := a_w3.trans b_w4
              have s0_w4 := any_own b_w4 s0_w3
              have s1_w4 := any_own b_w4 s1_w3
              have r0_w4 := own_row s0_w4
              have f0_w4 := own_free s0_w4
              have l0_w4 := own_lt s0_w4
              have r1_w4 := own_row s1_w4
              have f1_w4 := own_free s1_w4
              have l1_w4 := own_lt s1_w4
              (try clear r0_w3); (try clear f0_w3)
              (try clear r1_w3); (try clear f1_w3)
              have b_w4o := b_w3.trans b_w4
              cases bl with
              | false =>
                have HLN : Hid (wLast l f (i + 1) = k) := Lib.hid (by rw [wLast_no hfi HB2.out, HLS.out])
                go_wp2_with fail
                go_roundg (n - (i + 1))
                case measure => omega
                case rel => exact ⟨b_w4o, rfl, rfl, i + 1, k, rfl, by omega, by omega, by go_num, HLN.out, HGO.out, by rw [HS2.out]; exact s0_w4, by rw [HEK.out]; exact s1_w4⟩
              | true =>
                have HLN : Hid (wLast l f (i + 1) = i + 1) := Lib.hid (wLast_yes hfi HB2.out)
                go_upto_region 8 with fail
                first | refine settle_wp (fun wS => AnyLater wo wS ∧ wS.heap[p]? = some (.cells #[.int .i64 f, .int .i64 ((i : Int) + 1), .int .i64 (E + y)] 59) ∧ wS.heap[p + 1]? = some (.cells #[.int .i64 f, .int .i64 ((i : Int) + 1), .int .i64 (E + y)] 59)) ?_ ?_ | refine settle_calls (fun wS => AnyLater wo wS ∧ wS.heap[p]? = some (.cells #[.int .i64 f, .int .i64 ((i : Int) + 1), .int .i64 (E + y)] 59) ∧ wS.heap[p + 1]? = some (.cells #[.int .i64 f, .int .i64 ((i : Int) + 1), .int .i64 (E + y)] 59)) ?_ ?_
                · refine ⟨?_, ?_, ?_⟩
                  · repeat' (first | with_reducible assumption | with_reducible exact AnyLater.refl _ | with_reducible apply AnyLater.setCell | with_reducible apply AnyLater.later | with_reducible apply AnyLater.drewN | with_reducible apply AnyLater.drew | with_reducible apply AnyLater.alloc | ((try simp only [World.size_alloc, World.size_setCell, World.size_drew]); (try dsimp only); omega))
                  · ((repeat (first | with_reducible assumption | ((with_reducible apply heap_new); (try simp only [World.size_alloc, World.size_setCell, World.size_drew, World.heap_drewN]); done) | ((with_reducible apply heap_new); (try simp only [World.size_alloc, World.size_setCell, World.size_drew, World.heap_drewN]); omega) | (with_reducible refine heap_old (by (try simp only [World.size_alloc, World.size_setCell, World.size_drew, World.heap_drewN]); omega) ?_) | (with_reducible refine heap_drew ?_) | (with_reducible refine heap_far (by omega) ?_) | (with_reducible apply heap_at))); all_goals rfl)
                  · ((repeat (first | with_reducible assumption | ((with_reducible apply heap_new); (try simp only [World.size_alloc, World.size_setCell, World.size_drew, World.heap_drewN]); done) | ((with_reducible apply heap_new); (try simp only [World.size_alloc, World.size_setCell, World.size_drew, World.heap_drewN]); omega) | (with_reducible refine heap_old (by (try simp only [World.size_alloc, World.size_setCell, World.size_drew, World.heap_drewN]); omega) ?_) | (with_reducible refine heap_drew ?_) | (with_reducible refine heap_far (by omega) ?_) | (with_reducible apply heap_at))); all_goals rfl)
                rintro w5 ⟨b_w5, s0_w5, s1_w5⟩
                have a_w5 := a_wo.trans b_w5
                have r0_w5 := own_row s0_w5
                have f0_w5 := own_free s0_w5
                have l0_w5 := own_lt s0_w5
                have r1_w5 := own_row s1_w5
                have f1_w5 := own_free s1_w5
                have l1_w5 := own_lt s1_w5
                have z_w5 := b_w5.below.size
                go_wp2_with fail
                go_roundg (n - (i + 1))
                case measure => omega
                case rel => exact ⟨b_w5, rfl, rfl, i + 1, i + 1, rfl, by omega, by omega, by go_num, HLN.out, HGO.out, by rw [HS2.out]; exact s0_w5, by rw [HS2.out]; exact s1_w5⟩
      · obtain rfl : i = n := by omega
        have HTn : Hid (T = i) := Lib.hid (by rw [← HST.out, Nat.sub_self]; rfl)
        have HNX : Hid (wNext l m f = i) := Lib.hid (by rw [wNext_all (by rw [HL.out, HT.out, HTn.out]), HL.out])
        have HROW : Hid (D ++ [((f : Int), (i : Int), E)] = ALL) := Lib.hid (by
          have h := HALL2.out
          rw [HNX.out, HL.out, if_pos (Nat.le_refl _), HE.out] at h
          exact h)
        obtain ⟨u2, w4, k1, k2, k3, -⟩ := appF1 rowFT ((f : Int), (i : Int), E) (cs := #[.int .i64 (f : Int), .int .i64 (i : Int), .int .i64 E]) rfl (HO.out.later a_wr) (HA.out.trans a_wr).below.size (by omega)
        have K1 := Lib.hid k1
        have K2 : Hid (OF rowF 59 w4 w.heap.size u2 ALL) := Lib.hid (by rw [← HROW.out]; exact k2)
        have K3 := Lib.hid (k3 w (Nat.le_refl _) (HA.out.trans a_wr))
        clear k1 k2 k3
        go_wp2_with (at_builtin; refine Lib.wpList_append_run _ rfl _ _ _ _ rfl _ _ rfl rfl _ _ K1.out ?_)
        rw [Exit.noGoto_ret]
        go_ret
        exact ⟨_, rfl, K3.out, K2.out⟩
end Go.Proofs.YteplnejnhgmfiaaDoor
