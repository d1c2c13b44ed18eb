/- what the proof stands on: WrpB CelC CelD -/
import Derived.Deep.LoopGhost
import Derived.Deep.OwnRows
import Derived.Deep.QuietTactic
import Derived.Deep.CutBlock
import Derived.Test.YtamhnffokoejjaaGreatDoorKnbc
import Derived.Test.YtamhnffokoejjaaGreatDoorKnad
import Derived.Lib.AppendZeros
import Derived.Test.YtamhnffokoejjaaGreatDoorKnay
import Derived.Test.YtamhnffokoejjaaGreatDoorKnaz
namespace Go.Proofs.YtamhnffokoejjaaGreatDoor
set_option linter.unusedSimpArgs false
set_option linter.unusedVariables false
set_option linter.unusedSectionVars false
open Go.RowKit
theorem wrun_max {P : Program} (w : World) (ts : Array TypeId) (t : TypeId) (p q : Int) : (Builtin.max_ ts t #[.int .i64 p, .int .i64 q]).run P w = .ok (.int .i64 (max p q)) w := by
  rw [run_max_int2]
  split
  · rw [Int.max_eq_right (by omega)]
  · rw [Int.max_eq_left (by omega)]
set_option maxRecDepth 100000 in
set_option maxHeartbeats 1600000 in
theorem wrows_any (v : Value) (l : Cels) (x : Int) (w : World) (hv : FR celF w v l) (hN : CelsOk l) (hl : l.length ≤ 4000) (hx : I64s x) :
    Calls Tryz.prog 160 #[v, .int .i64 x] w fun e w' => ∃ u, e = .returned u ∧ AnyLater w w' ∧ OF rowF 184 w' w.heap.size u (rowsW l x) := by
  obtain ⟨A, cap, rfl, hc⟩ := hv.form
  have HV := Lib.hid hv
  have HNN := Lib.hid hN
  have hmx : ∀ (w : World) (ts : Array TypeId) (t : TypeId), (Builtin.max_ ts t #[.int .i64 x, .int .i64 1]).run Tryz.prog w = .ok (.int .i64 (max x 1)) w := fun w ts t => wrun_max w ts t x 1
  obtain ⟨m, hm⟩ : ∃ m, max x 1 = m := ⟨_, rfl⟩
  have m1 : 1 ≤ m := by omega
  have m2 : m ≤ 9223372036854775807 := by have := hx.2; omega
  obtain ⟨ALL, hall⟩ : ∃ ALL, rowsW l x = ALL := ⟨_, rfl⟩
  have HALL : Hid (wRows l m (l.length + 1) 0 = ALL) := Lib.hid (by rw [← hall, ← hm]; rfl)
  rw [hm] at hmx
  rw [hall]
  obtain ⟨n, hn⟩ : ∃ n, l.length = n := ⟨_, rfl⟩
  have HL := Lib.hid hn
  rw [hn] at HV HALL hc hl ⊢
  clear hv hN hn hm hall hx
  go_enter Tryz.func160, Tryz.ntmps160
  go_wp2_with fail
  go_step3
  go_wp2_with fail
  go_step3
  go_wp2_with fail
  go_loopg [5, 6] (n + 1) (fun kk sv fv wr => AnyLater w wr ∧ ∃ (f : Nat) (D : Rws), fv = .int .i64 f ∧ f ≤ n ∧ n + 1 ≤ kk + f ∧ D.length + kk ≤ n + 1 ∧ OF rowF 184 wr w.heap.size sv D ∧ D ++ wRows l m kk f = ALL)
  case atStart => exact ⟨AnyLater.refl _, 0, [], rfl, by omega, by omega, by simp, OF.nil _ _ _, HALL.out⟩
  case round =>
    obtain ⟨a_wr, f, D, rfl, hf, hk, hD, ho, hall⟩ := hrel
    have HA := Lib.hid a_wr
    have HO := Lib.hid ho
    obtain ⟨gg, rfl⟩ : ∃ gg, gk = gg + 1 := ⟨gk - 1, by omega⟩
    rw [wRows_succ] at hall
    have HALL2 := Lib.hid hall
    obtain ⟨A3, c3, rfl, h3⟩ := ho.form
    obtain ⟨T, hT⟩ : ∃ T, wStop l m f (n - f) f = T := ⟨_, rfl⟩
    have HT := Lib.hid hT
    clear ho hall hT
    generalize wr = wo at *
    have a_wo := a_wr
    clear a_wr
    go_wp2_with fail
    first | refine settle_wp (fun wS => AnyLater wo wS ∧ wS.heap[wo.heap.size]? = some (.cells #[.int .i64 f, .int .i64 f, .int .i64 0] 184) ∧ wS.heap[wo.heap.size + 1]? = some (.cells #[.int .i64 f, .int .i64 f, .int .i64 0] 184)) ?_ ?_ | refine settle_calls (fun wS => AnyLater wo wS ∧ wS.heap[wo.heap.size]? = some (.cells #[.int .i64 f, .int .i64 f, .int .i64 0] 184) ∧ wS.heap[wo.heap.size + 1]? = some (.cells #[.int .i64 f, .int .i64 f, .int .i64 0] 184)) ?_ ?_
    · refine ⟨?_, ?_, ?_⟩
      · repeat' (first | with_reducible assumption | with_reducible exact AnyLater.refl _ | with_reducible apply AnyLater.setCell | with_reducible apply AnyLater.later | with_reducible apply AnyLater.drewN | with_reducible apply AnyLater.drew | with_reducible apply AnyLater.alloc | ((try simp only [World.size_alloc, World.size_setCell, World.size_drew]); (try dsimp only); omega))
      · ((repeat (first | with_reducible assumption | ((with_reducible apply heap_new); (try simp only [World.size_alloc, World.size_setCell, World.size_drew, World.heap_drewN]); done) | ((with_reducible apply heap_new); (try simp only [World.size_alloc, World.size_setCell, World.size_drew, World.heap_drewN]); omega) | (with_reducible refine heap_old (by (try simp only [World.size_alloc, World.size_setCell, World.size_drew, World.heap_drewN]); omega) ?_) | (with_reducible refine heap_drew ?_) | (with_reducible refine heap_far (by omega) ?_) | (with_reducible apply heap_at))); all_goals rfl)
      · ((repeat (first | with_reducible assumption | ((with_reducible apply heap_new); (try simp only [World.size_alloc, World.size_setCell, World.size_drew, World.heap_drewN]); done) | ((with_reducible apply heap_new); (try simp only [World.size_alloc, World.size_setCell, World.size_drew, World.heap_drewN]); omega) | (with_reducible refine heap_old (by (try simp only [World.size_alloc, World.size_setCell, World.size_drew, World.heap_drewN]); omega) ?_) | (with_reducible refine heap_drew ?_) | (with_reducible refine heap_far (by omega) ?_) | (with_reducible apply heap_at))); all_goals rfl)
    rintro w1 ⟨b_w1, s0_w1, s1_w1⟩
    have a_w1 := a_wo.trans b_w1
    have r0_w1 := own_row s0_w1
    have f0_w1 := own_free s0_w1
    have l0_w1 := own_lt s0_w1
    have r1_w1 := own_row s1_w1
    have f1_w1 := own_free s1_w1
    have l1_w1 := own_lt s1_w1
    have z_w1 := b_w1.below.size
    obtain ⟨p, hp⟩ : ∃ p, wo.heap.size = p := ⟨_, rfl⟩
    have HP := Lib.hid hp
    rw [hp] at s0_w1 s1_w1 r0_w1 r1_w1 f0_w1 f1_w1 l0_w1 l1_w1 z_w1 ⊢
    have hpz : wo.heap.size ≤ p := by omega
    clear hp
    go_loopg [5, 6, 9] (n - f) (fun kk sv fv iv ws => AnyLater wo ws ∧ sv = .slice A3 D.length c3 ∧ fv = .int .i64 f ∧ ∃ (i k : Nat), kk = n - i ∧ f ≤ i ∧ i ≤ n ∧ iv = .int .i64 i ∧ wLast l f i = k ∧ wStop l m f (n - i) i = T ∧ ws.heap[p]? = some (.cells #[.int .i64 f, .int .i64 i, .int .i64 (wEnd l f i)] 184) ∧ ws.heap[p + 1]? = some (.cells #[.int .i64 f, .int .i64 k, .int .i64 (wEnd l f k)] 184))
    case atStart => exact ⟨b_w1, rfl, rfl, f, f, rfl, Nat.le_refl _, hf, rfl, wLast_self _ _, HT.out, by rw [wEnd_self]; exact s0_w1, by rw [wEnd_self]; exact s1_w1⟩
    case round =>
      obtain ⟨a_wr, rfl, rfl, i, k, hki, hfi, hin, rfl, hlast, hstop, s0_wr, s1_wr⟩ := hrel
      have r0_wr := own_row s0_wr
      have r1_wr := own_row s1_wr
      have f0_wr := own_free s0_wr
      have f1_wr := own_free s1_wr
      have l0_wr := own_lt s0_wr
      have l1_wr := own_lt s1_wr
      have HLS := Lib.hid hlast
      have HST := Lib.hid hstop
      have hkb := wLast_in l f i
      rw [hlast] at hkb
      have hEb := wEnd_in l f i
      obtain ⟨E, hE⟩ : ∃ E, wEnd l f i = E := ⟨_, rfl⟩
      obtain ⟨Ek, hEk⟩ : ∃ Ek, wEnd l f k = Ek := ⟨_, rfl⟩
      have HE := Lib.hid hE
      have HEK := Lib.hid hEk
      rw [hE] at hEb s0_wr r0_wr
      rw [hEk] at s1_wr r1_wr
      obtain ⟨E0, E1⟩ := hEb
      clear hlast hstop hE hEk
      by_cases hlt : i < n
      · have lj : i < l.length := by rw [HL.out]; exact hlt
        have i0 : (i : Int) < (n : Int) := by omega
        have hS := wEnd_succ hfi lj
        have hB := wBl_at lj
        obtain ⟨b, off, rfl, hb, c0, c1, c2, c3⟩ := celAt (HV.out.later (HA.out.trans a_wr)) i lj
        have hok := HNN.out l[i] (List.getElem_mem lj)
        obtain ⟨cel, hcel⟩ : ∃ cel, l[i] = cel := ⟨_, rfl⟩
        have HCEL := Lib.hid hcel
        rw [hcel] at c0 c1 c2 c3 hok hS hB
        have HS := Lib.hid hS
        have HB := Lib.hid hB
        clear hS hB
        clear hcel
        obtain ⟨ca, cn, cr, cs⟩ := cel
        simp only at c0 c1 c2 c3
        obtain ⟨-, -, hr, hs⟩ := hok
        obtain ⟨y, hy⟩ : ∃ y, widR cr cs E = y := ⟨_, rfl⟩
        have hyb := widR_in cr cs E
        rw [hy] at hyb
        obtain ⟨y0, y1⟩ := hyb
        have HW := Lib.hid (fun w => cwidth_any ca cn cr cs E w y hy hr hs (by constructor <;> omega))
        have HS2 : Hid (wEnd l f (i + 1) = E + y) := Lib.hid (by rw [HS.out, HE.out, ← hy]; rfl)
        clear hy hr hs HS
        go_wp2_with fail
        apply wp_region_free (11) [⟨8, 32, .int .i64 y, false, fun v _ => v = .int .i64 y⟩] [] rfl (by kernel_rfl) (by kernel_rfl) (by kernel_rfl) (by simp) (by kernel_rfl)
        case hstab =>
          intro c hc
          simp only [List.mem_cons, List.not_mem_nil, or_false] at hc
          rcases hc with rfl
          · intro v x y hxy hv; exact hv
        case hfix =>
          intro c hc
          simp only [List.mem_cons, List.not_mem_nil, or_false] at hc
          rcases hc with rfl
          · exact .inr fun u x h => h
        case hlex =>
          intro U hU
          have q0 := own_row (any_own hU s0_wr)
          have q1 := own_row (any_own hU s1_wr)
          have q_c0 := cell_on hU c0
          have q_c1 := cell_on hU c1
          have q_c2 := cell_on hU c2
          have q_c3 := cell_on hU c3
          simp only [List.map_cons, List.map_nil, CA.act, actFrom, actOp, List.lookup, Nat.reduceBEq, Nat.reduceLeDiff, Nat.reduceAdd, if_false, if_true]
          repeat (go_big_quiet_step (first | fail))
          exact wpQuiet_nil rfl
        case hstep =>
          intro j hj o ho
          have hj2 : j = 0 := by simp at hj; omega
          rcases hj2 with rfl
          · cases ho
            refine ⟨rfl, fun g x hx hp => ?_⟩
            clear hp
            simp only [fillAll, Act.put, List.setIfInBounds_toArray, List.set_cons_zero, List.set_cons_succ]
            refine chain_go ?_ (free_fix (HW.out x))
            first | (simp [go_sem, execOp]; done) | simp [go_sem, execOp, hcf]
        case htail =>
          intro g u hst hne
          have b_w2 : AnyLater wr (later u) := ⟨u, rfl⟩
          generalize later u = w2 at *
          clear u
          clear hst hne
          simp only [fillAll, Act.put, List.setIfInBounds_toArray, List.set_cons_zero, List.set_cons_succ, List.drop_succ_cons, List.drop_zero, List.drop_nil]
          have z_w2 := b_w2.below.size
          have a_w2 := a_wr.trans b_w2
          have s0_w2 := any_own b_w2 s0_wr
          have s1_w2 := any_own b_w2 s1_wr
          have r0_w2 := own_row s0_w2
          have f0_w2 := own_free s0_w2
          have l0_w2 := own_lt s0_w2
          have r1_w2 := own_row s1_w2
          have f1_w2 := own_free s1_w2
          have l1_w2 := own_lt s1_w2
          (try clear r0_wr); (try clear f0_wr)
          (try clear r1_wr); (try clear f1_wr)
          have c0_w2 := cell_on b_w2 c0
          have c1_w2 := cell_on b_w2 c1
          have c2_w2 := cell_on b_w2 c2
          have c3_w2 := cell_on b_w2 c3
          have a_w2o := a_w2
          clear c0 c1 c2 c3
          by_cases hleave : m < E + y ∧ f < i
          · obtain ⟨hm, hfi2⟩ := hleave
            have d1 : decide (m < E + y) = true := decide_eq_true hm
            have d2 : decide ((f : Int) < (i : Int)) = true := decide_eq_true (by omega)
            have HTi : Hid (T = i) := Lib.hid (by rw [← HST.out, ← HL.out]; exact wStop_end (by omega) (by rw [HS2.out]; exact hm))
            have HNX : Hid (wNext l m f = wBreak l f i) := Lib.hid (wNext_part (by rw [HL.out, HT.out, HTi.out]) (by rw [HL.out]; exact hlt))
            have HCUT : Hid (∃ K : Nat, wBreak l f i = K ∧ (k = f ∧ K = i ∨ k ≠ f ∧ K = k)) := Lib.hid ⟨_, rfl, by
              unfold wBreak; rw [HLS.out]; by_cases q : k = f
              · rw [if_pos q]; exact .inl ⟨q, rfl⟩
              · rw [if_neg q]; exact .inr ⟨q, rfl⟩⟩
            obtain ⟨K, hK, hKK⟩ := HCUT.out
            have HKN : Hid (wNext l m f = K ∧ f < K ∧ K < n) := Lib.hid ⟨by rw [HNX.out, hK], by have := wBreak_in (l := l) hfi2; omega⟩
            have HROW : Hid (D ++ [((f : Int), (K : Int), wEnd l f K)] ++ wRows l m gg K = ALL) := Lib.hid (by
              have h := HALL2.out
              rw [HKN.out.1, HL.out, if_neg (by have := HKN.out.2.2; omega)] at h
              rw [← h, List.append_assoc]; rfl)
            clear HCUT hK
            obtain ⟨EK, hEK⟩ : ∃ EK, wEnd l f K = EK := ⟨_, rfl⟩
            have HEK2 := Lib.hid hEK
            rw [hEK] at HROW
            clear hEK
            rcases hKK with ⟨q, hKi⟩ | ⟨q, hKi⟩
            · have d3 : ((k : Int) == (f : Int)) = true := by simp [q]
              have HEKE : Hid (E = EK) := Lib.hid (by rw [← HEK2.out, hKi, HE.out])
              have HKI : Hid (K = i) := Lib.hid hKi
              clear q hKi
              go_upto_region 13 with fail
              first | refine settle_wp (fun wS => AnyLater wo wS ∧ wS.heap[p + 1]? = some (.cells #[.int .i64 f, .int .i64 i, .int .i64 E] 184)) ?_ ?_ | refine settle_calls (fun wS => AnyLater wo wS ∧ wS.heap[p + 1]? = some (.cells #[.int .i64 f, .int .i64 i, .int .i64 E] 184)) ?_ ?_
              · refine ⟨?_, ?_⟩
                · repeat' (first | with_reducible assumption | with_reducible exact AnyLater.refl _ | with_reducible apply AnyLater.setCell | with_reducible apply AnyLater.later | with_reducible apply AnyLater.drewN | with_reducible apply AnyLater.drew | with_reducible apply AnyLater.alloc | ((try simp only [World.size_alloc, World.size_setCell, World.size_drew]); (try dsimp only); omega))
                · ((repeat (first | with_reducible assumption | ((with_reducible apply heap_new); (try simp only [World.size_alloc, World.size_setCell, World.size_drew, World.heap_drewN]); done) | ((with_reducible apply heap_new); (try simp only [World.size_alloc, World.size_setCell, World.size_drew, World.heap_drewN]); omega) | (with_reducible refine heap_old (by (try simp only [World.size_alloc, World.size_setCell, World.size_drew, World.heap_drewN]); omega) ?_) | (with_reducible refine heap_drew ?_) | (with_reducible refine heap_far (by omega) ?_) | (with_reducible apply heap_at))); all_goals rfl)
              rintro w3 ⟨b_w3, s0_w3⟩
              have a_w3 := a_wo.trans b_w3
              have r0_w3 := own_row s0_w3
              have f0_w3 := own_free s0_w3
              have l0_w3 := own_lt s0_w3
              have z_w3 := b_w3.below.size
              rw [HEKE.out, ← HKI.out] at s0_w3 r0_w3
              obtain ⟨u2, w4, k1, k2, k3, k4⟩ := appF1 rowFT ((f : Int), (K : Int), EK) (cs := #[.int .i64 (f : Int), .int .i64 (K : Int), .int .i64 EK]) rfl (HO.out.later b_w3) (HA.out.trans b_w3).below.size (by omega)
              have K1 := Lib.hid k1
              have K2 := Lib.hid k2
              have K3 := Lib.hid (k3 w (Nat.le_refl _) (HA.out.trans b_w3))
              have e4 : w4.cell? ⟨p + 1, 1, none⟩ = some (.int .i64 K) := own_row (grown_block k4 (any_own ((AnyLater.refl _).alloc _) s0_w3) (HO.out.under (by omega))) 1
              clear k1 k2 k3 k4
              go_wp2_with (at_builtin; refine Lib.wpList_append_run _ rfl _ _ _ _ rfl _ _ rfl rfl _ _ K1.out ?_)
              go_roundg gg
              case measure => omega
              case rel => exact ⟨K3.out, K, D ++ [((f : Int), (K : Int), EK)], rfl, by have := HKN.out; omega, by have := HKN.out; omega, by rw [List.length_append]; simp; omega, K2.out, HROW.out⟩
            · have d3 : ((k : Int) == (f : Int)) = false := by simpa using (by omega : (k : Int) ≠ (f : Int))
              have HEKE : Hid (Ek = EK) := Lib.hid (by rw [← HEK2.out, hKi, HEK.out])
              have HKI : Hid (K = k) := Lib.hid hKi
              clear q hKi
              go_upto_region 13 with fail
              first | refine settle_wp (fun wS => AnyLater wo wS ∧ wS.heap[p + 1]? = some (.cells #[.int .i64 f, .int .i64 k, .int .i64 Ek] 184)) ?_ ?_ | refine settle_calls (fun wS => AnyLater wo wS ∧ wS.heap[p + 1]? = some (.cells #[.int .i64 f, .int .i64 k, .int .i64 Ek] 184)) ?_ ?_
              · refine ⟨?_, ?_⟩
                · repeat' (first | with_reducible assumption | with_reducible exact AnyLater.refl _ | with_reducible apply AnyLater.setCell | with_reducible apply AnyLater.later | with_reducible apply AnyLater.drewN | with_reducible apply AnyLater.drew | with_reducible apply AnyLater.alloc | ((try simp only [World.size_alloc, World.size_setCell, World.size_drew]); (try dsimp only); omega))
                · ((repeat (first | with_reducible assumption | ((with_reducible apply heap_new); (try simp only [World.size_alloc, World.size_setCell, World.size_drew, World.heap_drewN]); done) | ((with_reducible apply heap_new); (try simp only [World.size_alloc, World.size_setCell, World.size_drew, World.heap_drewN]); omega) | (with_reducible refine heap_old (by (try simp only [World.size_alloc, World.size_setCell, World.size_drew, World.heap_drewN]); omega) ?_) | (with_reducible refine heap_drew ?_) | (with_reducible refine heap_far (by omega) ?_) | (with_reducible apply heap_at))); all_goals rfl)
              rintro w3 ⟨b_w3, s0_w3⟩
              have a_w3 := a_wo.trans b_w3
              have r0_w3 := own_row s0_w3
              have f0_w3 := own_free s0_w3
              have l0_w3 := own_lt s0_w3
              have z_w3 := b_w3.below.size
              rw [HEKE.out, ← HKI.out] at s0_w3 r0_w3
              obtain ⟨u2, w4, k1, k2, k3, k4⟩ := appF1 rowFT ((f : Int), (K : Int), EK) (cs := #[.int .i64 (f : Int), .int .i64 (K : Int), .int .i64 EK]) rfl (HO.out.later b_w3) (HA.out.trans b_w3).below.size (by omega)
              have K1 := Lib.hid k1
              have K2 := Lib.hid k2
              have K3 := Lib.hid (k3 w (Nat.le_refl _) (HA.out.trans b_w3))
              have e4 : w4.cell? ⟨p + 1, 1, none⟩ = some (.int .i64 K) := own_row (grown_block k4 (any_own ((AnyLater.refl _).alloc _) s0_w3) (HO.out.under (by omega))) 1
              clear k1 k2 k3 k4
              go_wp2_with (at_builtin; refine Lib.wpList_append_run _ rfl _ _ _ _ rfl _ _ rfl rfl _ _ K1.out ?_)
              go_roundg gg
              case measure => omega
              case rel => exact ⟨K3.out, K, D ++ [((f : Int), (K : Int), EK)], rfl, by have := HKN.out; omega, by have := HKN.out; omega, by rw [List.length_append]; simp; omega, K2.out, HROW.out⟩
          · have HGO : Hid (wStop l m f (n - (i + 1)) (i + 1) = T) := Lib.hid (by
              rw [← HST.out, ← HL.out]
              exact (wStop_go lj (by rw [HS2.out]; omega)).symm)
            obtain ⟨bl, hbl⟩ : ∃ bl, decide (cr = 9 ∨ cr = 32) = bl := ⟨_, rfl⟩
            have HBL := Lib.hid (fun w => cblank_any ca cn cr cs w bl hbl)
            have HB2 : Hid (wBl l i = bl) := Lib.hid (by rw [HB.out, ← hbl]; rfl)
            clear hbl
            have hcase : decide (m < E + y) = false ∨ decide (m < E + y) = true ∧ decide (f < i) = false := by
              by_cases q : m < E + y
              · exact .inr ⟨decide_eq_true q, decide_eq_false (by omega)⟩
              · exact .inl (decide_eq_false q)
            clear hleave
            rcases hcase with d1 | ⟨d1, d2⟩
            all_goals
              go_upto_region 16 with fail
              first | refine settle_wp (fun wS => AnyLater wo wS ∧ wS.heap[p]? = some (.cells #[.int .i64 f, .int .i64 ((i : Int) + 1), .int .i64 (E + y)] 184) ∧ wS.heap[p + 1]? = some (.cells #[.int .i64 f, .int .i64 k, .int .i64 Ek] 184)) ?_ ?_ | refine settle_calls (fun wS => AnyLater wo wS ∧ wS.heap[p]? = some (.cells #[.int .i64 f, .int .i64 ((i : Int) + 1), .int .i64 (E + y)] 184) ∧ wS.heap[p + 1]? = some (.cells #[.int .i64 f, .int .i64 k, .int .i64 Ek] 184)) ?_ ?_
              · refine ⟨?_, ?_, ?_⟩
                · repeat' (first | with_reducible assumption | with_reducible exact AnyLater.refl _ | with_reducible apply AnyLater.setCell | with_reducible apply AnyLater.later | with_reducible apply AnyLater.drewN | with_reducible apply AnyLater.drew | with_reducible apply AnyLater.alloc | ((try simp only [World.size_alloc, World.size_setCell, World.size_drew]); (try dsimp only); omega))
                · ((repeat (first | with_reducible assumption | ((with_reducible apply heap_new); (try simp only [World.size_alloc, World.size_setCell, World.size_drew, World.heap_drewN]); done) | ((with_reducible apply heap_new); (try simp only [World.size_alloc, World.size_setCell, World.size_drew, World.heap_drewN]); omega) | (with_reducible refine heap_old (by (try simp only [World.size_alloc, World.size_setCell, World.size_drew, World.heap_drewN]); omega) ?_) | (with_reducible refine heap_drew ?_) | (with_reducible refine heap_far (by omega) ?_) | (with_reducible apply heap_at))); all_goals rfl)
                · ((repeat (first | with_reducible assumption | ((with_reducible apply heap_new); (try simp only [World.size_alloc, World.size_setCell, World.size_drew, World.heap_drewN]); done) | ((with_reducible apply heap_new); (try simp only [World.size_alloc, World.size_setCell, World.size_drew, World.heap_drewN]); omega) | (with_reducible refine heap_old (by (try simp only [World.size_alloc, World.size_setCell, World.size_drew, World.heap_drewN]); omega) ?_) | (with_reducible refine heap_drew ?_) | (with_reducible refine heap_far (by omega) ?_) | (with_reducible apply heap_at))); all_goals rfl)
              rintro w3 ⟨b_w3, s0_w3, s1_w3⟩
              have a_w3 := a_wo.trans b_w3
              have r0_w3 := own_row s0_w3
              have f0_w3 := own_free s0_w3
              have l0_w3 := own_lt s0_w3
              have r1_w3 := own_row s1_w3
              have f1_w3 := own_free s1_w3
              have l1_w3 := own_lt s1_w3
              have z_w3 := b_w3.below.size
              obtain ⟨b', off', e', hb', c0, c1, c2, c3⟩ := celAt (HV.out.later (HA.out.trans b_w3)) i lj
              obtain ⟨rfl, rfl⟩ : b' = b ∧ off' = off := by cases e'; exact ⟨rfl, rfl⟩
              rw [HCEL.out] at c0 c1 c2 c3
              simp only at c0 c1 c2 c3
              clear e'
              go_wp2_with fail
              refine (HBL.out _).mono ?_
              rintro e w4 ⟨rfl, b_w4⟩
              have z_w4 := b_w4.below.size
              have a_w4 := a_w3.trans b_w4
              have s0_w4 := any_own b_w4 s0_w3
              have s1_w4 := any_own b_w4 s1_w3
              have r0_w4 := own_row s0_w4
              have f0_w4 := own_free s0_w4
              have l0_w4 := own_lt s0_w4
              have r1_w4 := own_row s1_w4
              have f1_w4 := own_free s1_w4
              have l1_w4 := own_lt s1_w4
              (try clear r0_w3); (try clear f0_w3)
              (try clear r1_w3); (try clear f1_w3)
              have b_w4o := b_w3.trans b_w4
              cases bl with
              | false =>
                have HLN : Hid (wLast l f (i + 1) = k) := Lib.hid (by rw [wLast_no hfi HB2.out, HLS.out])
                go_wp2_with fail
                go_roundg (n - (i + 1))
                case measure => omega
                case rel => exact ⟨b_w4o, rfl, rfl, i + 1, k, rfl, by omega, by omega, by go_num, HLN.out, HGO.out, by rw [HS2.out]; exact s0_w4, by rw [HEK.out]; exact s1_w4⟩
              | true =>
                have HLN : Hid (wLast l f (i + 1) = i + 1) := Lib.hid (wLast_yes hfi HB2.out)
                go_upto_region 8 with fail
                first | refine settle_wp (fun wS => AnyLater wo wS ∧ wS.heap[p]? = some (.cells #[.int .i64 f, .int .i64 ((i : Int) + 1), .int .i64 (E + y)] 184) ∧ wS.heap[p + 1]? = some (.cells #[.int .i64 f, .int .i64 ((i : Int) + 1), .int .i64 (E + y)] 184)) ?_ ?_ | refine settle_calls (fun wS => AnyLater wo wS ∧ wS.heap[p]? = some (.cells #[.int .i64 f, .int .i64 ((i : Int) + 1), .int .i64 (E + y)] 184) ∧ wS.heap[p + 1]? = some (.cells #[.int .i64 f, .int .i64 ((i : Int) + 1), .int .i64 (E + y)] 184)) ?_ ?_
                · refine ⟨?_, ?_, ?_⟩
                  · repeat' (first | with_reducible assumption | with_reducible exact AnyLater.refl _ | with_reducible apply AnyLater.setCell | with_reducible apply AnyLater.later | with_reducible apply AnyLater.drewN | with_reducible apply AnyLater.drew | with_reducible apply AnyLater.alloc | ((try simp only [World.size_alloc, World.size_setCell, World.size_drew]); (try dsimp only); omega))
                  · ((repeat (first | with_reducible assumption | ((with_reducible apply heap_new); (try simp only [World.size_alloc, World.size_setCell, World.size_drew, World.heap_drewN]); done) | ((with_reducible apply heap_new); (try simp only [World.size_alloc, World.size_setCell, World.size_drew, World.heap_drewN]); omega) | (with_reducible refine heap_old (by (try simp only [World.size_alloc, World.size_setCell, World.size_drew, World.heap_drewN]); omega) ?_) | (with_reducible refine heap_drew ?_) | (with_reducible refine heap_far (by omega) ?_) | (with_reducible apply heap_at))); all_goals rfl)
                  · ((repeat (first | with_reducible assumption | ((with_reducible apply heap_new); (try simp only [World.size_alloc, World.size_setCell, World.size_drew, World.heap_drewN]); done) | ((with_reducible apply heap_new); (try simp only [World.size_alloc, World.size_setCell, World.size_drew, World.heap_drewN]); omega) | (with_reducible refine heap_old (by (try simp only [World.size_alloc, World.size_setCell, World.size_drew, World.heap_drewN]); omega) ?_) | (with_reducible refine heap_drew ?_) | (with_reducible refine heap_far (by omega) ?_) | (with_reducible apply heap_at))); all_goals rfl)
                rintro w5 ⟨b_w5, s0_w5, s1_w5⟩
                have a_w5 := a_wo.trans b_w5
                have r0_w5 := own_row s0_w5
                have f0_w5 := own_free s0_w5
                have l0_w5 := own_lt s0_w5
                have r1_w5 := own_row s1_w5
                have f1_w5 := own_free s1_w5
                have l1_w5 := own_lt s1_w5
                have z_w5 := b_w5.below.size
                go_wp2_with fail
                go_roundg (n - (i + 1))
                case measure => omega
                case rel => exact ⟨b_w5, rfl, rfl, i + 1, i + 1, rfl, by omega, by omega, by go_num, HLN.out, HGO.out, by rw [HS2.out]; exact s0_w5, by rw [HS2.out]; exact s1_w5⟩
      · obtain rfl : i = n := by omega
        have HTn : Hid (T = i) := Lib.hid (by rw [← HST.out, Nat.sub_self]; rfl)
        have HNX : Hid (wNext l m f = i) := Lib.hid (by rw [wNext_all (by rw [HL.out, HT.out, HTn.out]), HL.out])
        have HROW : Hid (D ++ [((f : Int), (i : Int), E)] = ALL) := Lib.hid (by
          have h := HALL2.out
          rw [HNX.out, HL.out, if_pos (Nat.le_refl _), HE.out] at h
          exact h)
        obtain ⟨u2, w4, k1, k2, k3, -⟩ := appF1 rowFT ((f : Int), (i : Int), E) (cs := #[.int .i64 (f : Int), .int .i64 (i : Int), .int .i64 E]) rfl (HO.out.later a_wr) (HA.out.trans a_wr).below.size (by omega)
        have K1 := Lib.hid k1
        have K2 : Hid (OF rowF 184 w4 w.heap.size u2 ALL) := Lib.hid (by rw [← HROW.out]; exact k2)
        have K3 := Lib.hid (k3 w (Nat.le_refl _) (HA.out.trans a_wr))
        clear k1 k2 k3
        go_wp2_with (at_builtin; refine Lib.wpList_append_run _ rfl _ _ _ _ rfl _ _ rfl rfl _ _ K1.out ?_)
        rw [Exit.noGoto_ret]
        go_ret
        exact ⟨_, rfl, K3.out, K2.out⟩
end Go.Proofs.YtamhnffokoejjaaGreatDoor
namespace Go.Proofs.YtamhnffokoejjaaGreatDoor
set_option linter.unusedSimpArgs false
set_option linter.unusedVariables false
set_option linter.unusedSectionVars false
open Go.RowKit
def expR (R : Runs) : List Int := R.flatMap fun r => List.replicate r.1.toNat r.2
theorem expR_cons (r : Int × Int) (R : Runs) : expR (r :: R) = List.replicate r.1.toNat r.2 ++ expR R := rfl
def PosR (R : Runs) : Prop := ∀ r ∈ R, 1 ≤ r.1 ∧ r.1 ≤ 16777216 ∧ I64s r.2
theorem PosR.tail {r : Int × Int} {R : Runs} (h : PosR (r :: R)) : PosR R := fun x hx => h x (List.mem_cons_of_mem _ hx)
theorem PosR.head {r : Int × Int} {R : Runs} (h : PosR (r :: R)) : 1 ≤ r.1 ∧ r.1 ≤ 16777216 ∧ I64s r.2 := h r List.mem_cons_self
def behR : Runs → Nat → Runs
  | [], _ => []
  | (k, s) :: R, n => if k ≤ (n : Int) then behR R (n - k.toNat) else (k - n, s) :: R
theorem behR_pos : ∀ {R : Runs} {n : Nat}, PosR R → PosR (behR R n)
  | [], n, h => h
  | (k, s) :: R, n, h => by
    unfold behR
    split
    · exact behR_pos h.tail
    · have hh := h.head
      simp only at hh
      intro r hr
      rcases List.mem_cons.1 hr with rfl | hr
      · exact ⟨by simp only; omega, by simp only; omega, hh.2.2⟩
      · exact h.tail r hr
theorem behR_len : ∀ {R : Runs} {n : Nat}, (behR R n).length ≤ R.length
  | [], n => Nat.le_refl _
  | (k, s) :: R, n => by
    unfold behR
    split
    · exact Nat.le_succ_of_le behR_len
    · simp
theorem behR_exp : ∀ {R : Runs} {n : Nat}, PosR R → expR (behR R n) = (expR R).drop n
  | [], n, h => by simp [behR, expR]
  | (k, s) :: R, n, h => by
    have hh := h.head
    simp only at hh
    unfold behR
    split
    · rename_i hk
      rw [behR_exp h.tail, expR_cons, List.drop_append, List.length_replicate, List.drop_replicate, show (k, s).1.toNat - n = 0 by simp only; omega, List.replicate_zero, List.nil_append]
    · rename_i hk
      rw [expR_cons, expR_cons, List.drop_append, List.length_replicate, List.drop_replicate, show n - k.toNat = 0 by omega, List.drop_zero, show (k - (n : Int)).toNat = k.toNat - n by omega]
theorem first_exp : ∀ {R : Runs}, PosR R → (expR R).getD 0 0 = (R.head?.map (·.2)).getD 0
  | [], h => rfl
  | (k, s) :: R, h => by
    have hh := h.head
    simp only at hh
    rw [expR_cons, show (k, s).1.toNat = (k.toNat - 1) + 1 by simp only; omega, List.replicate_succ]
    rfl
theorem expR_of : ∀ l : List Int, expR (ofR l) = l
  | [] => rfl
  | s :: l => by
    have ih := expR_of l
    have hp := ofR_le l
    show expR (consR s (ofR l)) = _
    cases hl : ofR l with
    | nil => rw [ofR_nil hl]; rfl
    | cons y q =>
      obtain ⟨k, u⟩ := y
      rw [hl] at ih hp
      have hk := (hp (k, u) List.mem_cons_self).1
      simp only at hk
      rw [consR_cons]
      split
      · rename_i e
        subst e
        rw [expR_cons] at ih ⊢
        simp only at ih ⊢
        rw [show (k + 1).toNat = k.toNat + 1 by omega, List.replicate_succ, List.cons_append, ih]
      · rw [expR_cons, ih]; rfl
def StR (B : Nat) (w : World) (v : Value) (R : Runs) : Prop := ∃ A cap, v = .slice A R.length cap ∧ R.length ≤ cap ∧ (0 < R.length → ∃ g off cs, A = some ⟨g, off, none⟩ ∧ B ≤ g ∧ w.heap[g]? = some (.cells cs 76) ∧ ∀ (j : Nat) (h : j < R.length), cs[off + j * 2]? = some (.int .i64 R[j].1) ∧ cs[off + j * 2 + 1]? = some (.int .i64 R[j].2))
theorem StR.of_own {B : Nat} {w : World} {v : Value} {l : Runs} (h : ORn w B v l) : StR B w v l := by
  rcases h.2 with ⟨rfl, h0⟩ | ⟨g, cap, cur, rfl, h2, h3, h4, h5, h6, h7⟩
  · exact ⟨none, 0, by rw [h0], by omega, fun hp => by omega⟩
  · refine ⟨_, cap, rfl, h4, fun _ => ⟨g, 0, cur, rfl, h2, h3, fun j hj => ?_⟩⟩
    have e : ∀ k, k < l.length * 2 → cur[k]? = (flatN l)[k]? := fun k hk => by
      have : (cur.toList.take (l.length * 2))[k]? = (flatN l)[k]? := by rw [h7]
      rw [List.getElem?_take_of_lt hk] at this
      simpa using this
    rw [Nat.zero_add, e _ (by omega), e _ (by omega), flatN_0, flatN_1, List.getElem?_eq_getElem hj]
    exact ⟨rfl, rfl⟩
theorem StR.nil (B : Nat) (w : World) : StR B w (.slice none 0 0) [] := ⟨none, 0, rfl, Nat.le_refl _, fun h => absurd h (by simp)⟩
theorem StR.later {B : Nat} {w w' : World} {v : Value} {R : Runs} (h : StR B w v R) (ha : AnyLater w w') : StR B w' v R := by
  obtain ⟨A, cap, h1, h2, h3⟩ := h
  refine ⟨A, cap, h1, h2, fun h0 => ?_⟩
  obtain ⟨g, off, cs, e, hB, hg, hc⟩ := h3 h0
  exact ⟨g, off, cs, e, hB, any_own ha hg, hc⟩
theorem StR.form {B : Nat} {w : World} {v : Value} {R : Runs} (h : StR B w v R) : ∃ A cap, v = .slice A R.length cap ∧ R.length ≤ cap := by
  obtain ⟨A, cap, h1, h2, _⟩ := h
  exact ⟨A, cap, h1, h2⟩
set_option maxRecDepth 100000 in
theorem size_runs (w : World) : (Go.sizeOf (Tryz.prog.elem 35)).run Tryz.prog w = .ok 2 w := by simp [go_sem]
set_option maxRecDepth 100000 in
theorem StR.cut {B : Nat} {w : World} {A : Option Addr} {cap m : Nat} {r : Int × Int} {R : Runs} (h : StR B w (.slice A (m + 1) cap) (r :: R)) (hm : R.length = m) : ∃ A' cap', StR B w (.slice A' m cap') R ∧ ∀ w', (Instr.sliceAt 35 (.slice A (m + 1) cap) (some (.int .i64 1)) none none).run Tryz.prog w' = .ok (.slice A' m cap') w' := by
  subst hm
  obtain ⟨A', cap', e, h2, h3⟩ := h
  cases e
  obtain ⟨g, off, cs, rfl, hB, hg, hc⟩ := h3 (by simp)
  rw [List.length_cons] at h2
  refine ⟨some ⟨g, if cap = 1 then off else off + 2, none⟩, cap - 1, ⟨_, _, rfl, by omega, fun h0 => ⟨g, _, cs, rfl, hB, hg, fun j hj => ?_⟩⟩, fun w' => ?_⟩
  · rw [if_neg (by omega)]
    have := hc (j + 1) (by rw [List.length_cons]; omega)
    rw [show off + (j + 1) * 2 = off + 2 + j * 2 by omega] at this
    simpa using this
  · rw [run_sliceAt_slice w' _ _ _ _ _ Tryz.underlying35, run_slice_l w' _ (some ⟨g, off, none⟩) (R.length + 1) cap Tryz.underlying35 .i64 1 (by omega) (by omega)]
    rw [size_runs]
    simp only [Result.andThen, sliced]
    split
    · rename_i e
      rw [if_pos (by simpa using e)]; rfl
    · rename_i e
      rw [if_neg (by simpa using e), Option.map_some, addr_add]; rfl
theorem StR.head {B : Nat} {w : World} {A : Option Addr} {n cap : Nat} {r : Int × Int} {R : Runs} (h : StR B w (.slice A n cap) (r :: R)) : ∃ g off cs, A = some ⟨g, off, none⟩ ∧ B ≤ g ∧ w.heap[g]? = some (.cells cs 76) ∧ cs[off]? = some (.int .i64 r.1) ∧ cs[off + 1]? = some (.int .i64 r.2) := by
  obtain ⟨A', cap', e, h2, h3⟩ := h
  cases e
  obtain ⟨g, off, cs, rfl, hB, hg, hc⟩ := h3 (by simp)
  have := hc 0 (by simp)
  exact ⟨g, off, cs, rfl, hB, hg, by simpa using this⟩
theorem StR.put {B : Nat} {w : World} {g off n cap : Nat} {r : Int × Int} {R : Runs} (x : Int) (h : StR B w (.slice (some ⟨g, off, none⟩) n cap) (r :: R)) : StR B (w.setCell ⟨g, off, none⟩ (.int .i64 x)) (.slice (some ⟨g, off, none⟩) n cap) ((x, r.2) :: R) := by
  obtain ⟨A', cap', e, h2, h3⟩ := h
  cases e
  obtain ⟨g', off', cs, e, hB, hg, hc⟩ := h3 (by simp)
  cases e
  refine ⟨_, _, rfl, h2, fun _ => ⟨g, off, cs.setIfInBounds off (.int .i64 x), rfl, hB, heap_at hg rfl, fun j hj => ?_⟩⟩
  cases j with
  | zero =>
    have h0 := hc 0 (by simp)
    have hlt : off < cs.size := (Array.getElem?_eq_some_iff.1 (by simpa using h0.1)).1
    refine ⟨?_, ?_⟩
    · rw [Nat.zero_mul, Nat.add_zero, Array.getElem?_setIfInBounds_self, if_pos hlt]; rfl
    · rw [Nat.zero_mul, Nat.add_zero, Array.getElem?_setIfInBounds_ne (by omega)]
      simpa using h0.2
  | succ j =>
    have := hc (j + 1) (by simpa using hj)
    rw [Array.getElem?_setIfInBounds_ne (by omega), Array.getElem?_setIfInBounds_ne (by omega)]
    simpa using this
def TouR (B : Nat) (w w' : World) : Prop := w' = w ∨ ∃ g i x cs, B ≤ g ∧ w.heap[g]? = some (.cells cs 76) ∧ w' = w.setCell ⟨g, i, none⟩ x
theorem TouR.any {B : Nat} {W w w' : World} (h : TouR B w w') (hB : W.heap.size ≤ B) (ha : AnyLater W w) : AnyLater W w' := by
  rcases h with rfl | ⟨g, i, x, cs, h1, h2, rfl⟩
  · exact ha
  · exact ha.setCell (p := ⟨g, i, none⟩) (by simp only; omega) x
theorem TouR.cels {B : Nat} {w w' : World} (h : TouR B w w') {v : Value} {l : Cels} {C : Nat} (o : OF celF 160 w C v l) : OF celF 160 w' C v l := by
  rcases h with rfl | ⟨g, i, x, cs, h1, h2, rfl⟩
  · exact o
  · exact owns_set h2 (by decide) x i o
theorem StR.grown {B C : Nat} {w w2 : World} {v vc : Value} {R : Runs} {l : Cels} {cs : Array Value} (h : StR B w v R) (o : OF celF 160 w C vc l) (hg : (w.alloc (.cells cs 160)).grownBy w2 vc.ownBlock) : StR B w2 v R := by
  have a1 : AnyLater w (w.alloc (.cells cs 160)) := (AnyLater.refl w).alloc _
  have o2 := o.later a1
  obtain ⟨A, cap, h1, h2, h3⟩ := h.later a1
  refine ⟨A, cap, h1, h2, fun h0 => ?_⟩
  obtain ⟨g, off, cs, e, hB, hg1, hc⟩ := h3 h0
  exact ⟨g, off, cs, e, hB, grown_block hg hg1 (owns_ne o2 hg1 (by decide)), hc⟩
set_option maxRecDepth 100000 in
theorem cfirst_any (v : Value) (R : Runs) (B : Nat) (w : World) (c : Int) (hc : (R.head?.map (·.2)).getD 0 = c) (h : StR B w v R) : Calls Tryz.prog 199 #[v] w fun e w' => e = .returned (.int .i64 c) ∧ w = w' := by
  obtain ⟨A, cap, rfl, h2⟩ := h.form
  cases R with
  | nil =>
    have HC := Lib.hid hc
    clear h hc
    simp only [List.length_nil]
    go_enter Tryz.func199, Tryz.ntmps199
    go_wp2_with fail
    go_ret
    exact ⟨ret_int HC.out, rfl⟩
  | cons r R =>
    obtain ⟨g, off, cs, rfl, hB, hg, c0, c1⟩ := h.head
    have e1 : w.cell? ⟨g, off + 1, none⟩ = some (.int .i64 r.2) := by rw [own_row hg]; exact c1
    have HC := Lib.hid hc
    rw [List.length_cons] at *
    have i1 : ((R.length : Int) + 1 == 0) = false := by simp; omega
    obtain ⟨m, hm⟩ : ∃ m, R.length = m := ⟨_, rfl⟩
    rw [hm] at *
    clear h hc hm hg c0 c1
    go_enter Tryz.func199, Tryz.ntmps199
    go_wp2_with fail
    go_ret
    exact ⟨ret_int HC.out, rfl⟩
set_option maxRecDepth 100000 in
set_option maxHeartbeats 3200000 in
theorem cbehind_any (v : Value) (R : Runs) (n B : Nat) (w : World) (h : StR B w v R) (hp : PosR R) (hn : n ≤ 1000) (hl : R.length ≤ 100000) : Calls Tryz.prog 200 #[v, .int .i64 (n : Int)] w fun e w' => ∃ u, e = .returned u ∧ StR B w' u (behR R n) ∧ TouR B w w' := by
  obtain ⟨A, cap, rfl, h2⟩ := h.form
  have HV := Lib.hid h
  have HP := Lib.hid hp
  obtain ⟨L, hL⟩ : ∃ L, R.length = L := ⟨_, rfl⟩
  have HL := Lib.hid hL
  rw [hL] at HV h2 hl ⊢
  clear h hp hL
  go_enter Tryz.func200, Tryz.ntmps200
  go_wp2_with fail
  go_loopg [0, 1] L (fun kk sv nv wr => wr = w ∧ ∃ (R' : Runs) (m c2 : Nat) (A2 : Option Addr), kk = R'.length ∧ nv = .int .i64 (m : Int) ∧ m ≤ 1000 ∧ sv = .slice A2 kk c2 ∧ kk ≤ c2 ∧ kk ≤ L ∧ StR B w (.slice A2 kk c2) R' ∧ PosR R' ∧ behR R n = behR R' m)
  case atStart => exact ⟨rfl, R, n, cap, A, HL.out.symm, rfl, hn, rfl, h2, Nat.le_refl _, HV.out, HP.out, rfl⟩
  case round =>
    obtain ⟨rfl, R', m, c2, A2, hk, rfl, hm, rfl, hc2, hkl, hs, hp, hb⟩ := hrel
    have HS := Lib.hid hs
    have HPP := Lib.hid hp
    have HB := Lib.hid hb
    clear hb
    cases R' with
    | nil =>
      obtain rfl : gk = 0 := hk
      clear hs hp
      go_wp2_with fail
      go_ret
      exact ⟨_, rfl, by rw [HB.out]; exact HS.out, .inl rfl⟩
    | cons r R' =>
      obtain ⟨q, hq⟩ : ∃ q, R'.length = q := ⟨_, rfl⟩
      obtain rfl : gk = q + 1 := by rw [hk, List.length_cons, hq]
      obtain ⟨g, off, cs, rfl, hBg, hg, c0, c1⟩ := hs.head
      obtain ⟨A3, c3, HS3, hcut⟩ := hs.cut hq
      have HS3 := Lib.hid HS3
      have HG := Lib.hid hg
      have d0 : wr.cell? ⟨g, off, none⟩ = some (.int .i64 r.1) := by rw [own_row hg]; exact c0
      have hh := hp.head
      obtain ⟨k, s⟩ := r
      simp only at d0 hh
      obtain ⟨k1, k2, -⟩ := hh
      have i1 : (0 : Int) < (q : Int) + 1 := by omega
      have HQ := Lib.hid hq
      have hc3 : q ≤ c3 := by obtain ⟨_, _, e, he⟩ := HS3.out.form; cases e; omega
      have fz := own_free hg off
      clear hs hp hk hq c0 c1
      by_cases hkm : k ≤ (m : Int)
      · have HB2 : Hid (behR R n = behR R' (m - k.toNat)) := Lib.hid (by rw [HB.out]; show (if k ≤ (m : Int) then _ else _) = _; rw [if_pos hkm])
        clear hg
        go_wp2_with fail
        go_roundg q
        case measure => omega
        case rel => exact ⟨rfl, R', m - k.toNat, c3, A3, HQ.out.symm, by congr 1; omega, by omega, rfl, hc3, by omega, HS3.out, HPP.out.tail, HB2.out⟩
      · have hkf : decide (k ≤ (m : Int)) = false := decide_eq_false hkm
        have HB2 : Hid (StR B (wr.setCell ⟨g, off, none⟩ (.int .i64 (k - m))) (.slice (some ⟨g, off, none⟩) (q + 1) c2) (behR R n)) := Lib.hid (by
          rw [HB.out]
          show StR B _ _ (if k ≤ (m : Int) then _ else _)
          rw [if_neg hkm]
          exact HS.out.put (k - m))
        clear hg
        go_wp2_with fail
        go_ret
        exact ⟨_, rfl, HB2.out, .inr ⟨g, off, _, cs, hBg, HG.out, rfl⟩⟩
end Go.Proofs.YtamhnffokoejjaaGreatDoor
namespace Go.Proofs.YtamhnffokoejjaaGreatDoor
set_option linter.unusedSimpArgs false
set_option linter.unusedVariables false
set_option linter.unusedSectionVars false
open Go.RowKit
def celsU (l : List Int) (sty : Nat → Int) (c : Nat) : Cels := (List.range c).map fun j => ((it l j : Int), ((decU (l.drop (it l j))).2 : Int), (decU (l.drop (it l j))).1, sty (it l j))
theorem celsU_length (l : List Int) (sty : Nat → Int) (c : Nat) : (celsU l sty c).length = c := by simp [celsU]
theorem celsU_succ (l : List Int) (sty : Nat → Int) (c : Nat) : celsU l sty (c + 1) = celsU l sty c ++ [((it l c : Int), ((decU (l.drop (it l c))).2 : Int), (decU (l.drop (it l c))).1, sty (it l c))] := by
  unfold celsU
  rw [List.range_succ, List.map_append]; rfl
theorem celsU_congr {l : List Int} {sty sty2 : Nat → Int} {c : Nat} (hc : Cnt l c) (h : ∀ p, p < l.length → sty p = sty2 p) : celsU l sty c = celsU l sty2 c := by
  unfold celsU
  apply List.map_congr_left
  intro j hj
  rw [h _ (hc.lt j (List.mem_range.1 hj))]
theorem celsU_ok {l : List Int} (hb : Bytes l) {sty : Nat → Int} (hs : ∀ p, I64s (sty p)) (hl : l.length ≤ 1000) (c : Nat) : CelsOk (celsU l sty c) := by
  intro x hx
  obtain ⟨j, _, rfl⟩ := List.mem_map.1 hx
  have h1 := it_le hb j
  have h2 := dec_len (hb.drop (it l j))
  have h3 := dec_rune (hb.drop (it l j))
  refine ⟨?_, ?_, ?_, hs _⟩
  · constructor <;> simp only <;> omega
  · constructor <;> simp only <;> omega
  · constructor <;> simp only <;> omega
def styD (rl : Runs) (f : Int) (n : Nat) : List Int := if 0 ≤ f ∧ f ≤ 16777216 then partL (sR rl) f (f + n) else []
theorem styD_length (rl : Runs) (f : Int) (n : Nat) : (styD rl f n).length ≤ n := by
  unfold styD
  split
  · unfold partL clampZ
    rw [List.length_drop, List.length_take]
    omega
  · exact Nat.zero_le _
theorem styD_good {rl : Runs} {f : Int} {n : Nat} : ∀ s ∈ styD rl f n, goodS s = true := by
  intro s hs
  unfold styD at hs
  split at hs
  · exact sR_good s (List.mem_of_mem_take (List.mem_of_mem_drop hs))
  · cases hs
theorem posR_of {l : List Int} (hg : ∀ s ∈ l, goodS s = true) (hl : l.length ≤ 1000) : PosR (ofR l) := fun r hr => by
  have h := ofR_fair hg r hr
  exact ⟨h.1, by omega, goodS_i64 h.2.2⟩
theorem getD_drop (l : List Int) (p : Nat) : (l.drop p).getD 0 0 = l.getD p 0 := by
  rw [List.getD_eq_getElem?_getD, List.getD_eq_getElem?_getD, List.getElem?_drop, Nat.add_zero]
set_option maxRecDepth 100000 in
set_option maxHeartbeats 1600000 in
theorem cstyles_any (v : Value) (rl : Runs) (f : Int) (n : Nat) (w : World) (h : RRn w v rl) (hN : NumsR rl) (hl : rl.length ≤ 90000) (hf : I64s f) (hn : n ≤ 1000) :
    Calls Tryz.prog 195 #[v, .int .i64 f, .int .i64 (n : Int)] w fun e w' => ∃ u, e = .returned u ∧ AnyLater w w' ∧ StR w.heap.size w' u (ofR (styD rl f n)) := by
  obtain ⟨f1, f2⟩ := hf
  by_cases h1 : f < 0
  · have HE : Hid (ofR (styD rl f n) = []) := Lib.hid (by unfold styD; rw [if_neg (by omega)]; rfl)
    clear h hN
    go_enter Tryz.func195, Tryz.ntmps195
    go_wp2_with fail
    go_ret
    exact ⟨_, rfl, AnyLater.refl _, by rw [HE.out]; exact StR.nil _ _⟩
  · by_cases h2 : 16777216 < f
    · have HE : Hid (ofR (styD rl f n) = []) := Lib.hid (by unfold styD; rw [if_neg (by omega)]; rfl)
      have d1 : decide (f < 0) = false := decide_eq_false h1
      clear h hN
      go_enter Tryz.func195, Tryz.ntmps195
      go_wp2_with fail
      go_ret
      exact ⟨_, rfl, AnyLater.refl _, by rw [HE.out]; exact StR.nil _ _⟩
    · have HP := Lib.hid (ppart_any v rl (ofR (styD rl f n)) f (f + n) w (by unfold styD; rw [if_pos (by omega)]; rfl) h hN hl)
      have d1 : decide (f < 0) = false := decide_eq_false h1
      have d2 : decide (16777216 < f) = false := decide_eq_false h2
      have f3 : 0 ≤ f := by omega
      have f4 : f ≤ 16777216 := by omega
      clear h hN h1 h2
      go_enter Tryz.func195, Tryz.ntmps195
      go_wp2_with fail
      refine HP.out.mono ?_
      rintro e w1 ⟨u, rfl, b1, o1⟩
      have HO := Lib.hid (And.intro b1 (StR.of_own o1))
      clear b1 o1
      go_wp2_with fail
      go_ret
      exact ⟨_, rfl, HO.out⟩
theorem czeroRow (w : World) (n : Nat) (h0 : 0 < n) (hn : n ≤ 300000) :
    ∃ g cap w2, (Builtin.append_ #[108, 3] 108 #[.slice none 0 0, .int .i64 (n : Int)]).run Tryz.prog w = .ok (.slice (some ⟨g, 0, none⟩) n cap) w2 ∧ AnyLater w w2 ∧ OF celF 160 w2 w.heap.size (.slice (some ⟨g, 0, none⟩) 0 cap) [] := by
  obtain ⟨i0, hi0, hz0, hz1, hz2⟩ := info_parts celFT.info
  have hcap := grownCap_ge w n 0 160
  have hcap2 := grownCap_le_maxLen w n 0 160 (by unfold maxLen; omega)
  refine ⟨_, _, _, Lib.run_append_nil_zeros (P := Tryz.prog) w 108 3 108 160 i0 (.agg #[.int .i64 0, .int .i64 0, .int .i32 0, .int .i64 0]) .i64 .i64 Tryz.underlying108 (by kernel_rfl) hi0 hz0 n h0 (by rw [hz1]; decide) (by omega) (by rw [hz2]; omega), ?_, rfl, .inr ⟨w.heap.size, _, _, rfl, Nat.le_refl _, heap_new rfl, Nat.zero_le _, hcap2, ?_, by simp [Flat.row]⟩⟩
  · exact (((AnyLater.refl w).drewN 1).alloc _)
  · rw [Array.size_append, size_zeroCells, size_zeroCells]
    show n * 4 + (grownCap w n 0 160 - n) * 4 = _ * 4
    omega
set_option maxRecDepth 100000 in
theorem cgrow_none (N : Nat) (w : World) (hn : N ≤ 1000) : Calls Tryz.prog 196 #[.slice none 0 0, .int .i64 (N : Int)] w fun e w' => ∃ u, e = .returned u ∧ AnyLater w w' ∧ OF celF 160 w' w.heap.size u [] := by
  rcases Nat.eq_zero_or_pos N with rfl | hpos
  · go_enter Tryz.func196, Tryz.ntmps196
    go_wp2_with fail
    go_ret
    exact ⟨_, rfl, AnyLater.refl _, OF.nil _ _ _⟩
  · obtain ⟨g, cap, w2, k1, k2, k3⟩ := czeroRow w N hpos (by omega)
    have K1 := Lib.hid k1
    have HB := Lib.hid (And.intro k2 k3)
    clear k1 k2 k3
    go_enter Tryz.func196, Tryz.ntmps196
    go_wp2_with (at_builtin; refine Lib.wpList_append_run _ rfl _ _ _ _ rfl _ _ rfl rfl _ _ K1.out ?_)
    go_ret
    exact ⟨_, rfl, HB.out⟩
set_option maxRecDepth 100000 in
set_option maxHeartbeats 1600000 in
theorem cof_any (v vr : Value) (l : List Int) (rl : Runs) (f : Int) (c : Nat) (w : World) (hv : RU8 w v l) (hb : Bytes l) (hl : l.length ≤ 900) (hg : GlobU w) (hc : Cnt l c) (hr : RRn w vr rl) (hN : NumsR rl) (hrl : rl.length ≤ 90000) (hf : I64s f) :
    Calls Tryz.prog 159 #[v, vr, .int .i64 f] w fun e w' => ∃ u, e = .returned u ∧ AnyLater w w' ∧ OF celF 160 w' w.heap.size u (celsU l (fun p => (styD rl f l.length).getD p 0) c) := by
  have HV := Lib.hid hv
  obtain ⟨A, cap, rfl, hcap⟩ := hv.form
  have hD1 := styD_length rl f l.length
  have HDG : Hid (∀ s ∈ styD rl f l.length, goodS s = true) := Lib.hid styD_good
  have HST := Lib.hid (cstyles_any vr rl f l.length w hr hN hrl hf (by omega))
  obtain ⟨D, hD⟩ : ∃ D, styD rl f l.length = D := ⟨_, rfl⟩
  rw [hD] at hD1 HDG HST ⊢
  obtain ⟨A2, cap2, rfl, -, -⟩ := hr
  obtain ⟨nr, hnr⟩ : ∃ nr, rl.length = nr := ⟨_, rfl⟩
  rw [hnr] at HST ⊢
  have HB := Lib.hid hb
  have HG := Lib.hid hg
  have HC := Lib.hid hc
  have hcl := hc.le hb
  have HLE := Lib.hid (fun j => it_le hb j)
  have HCT := Lib.hid (fun w1 (a : AnyLater w w1) => ucount_any (.slice A l.length cap) l c w1 (HV.out.later a) hb (by omega) (hg.later a) hc)
  have HGR := Lib.hid (fun w => cgrow_none c w (by omega))
  have hDl : D.length ≤ 900 := by omega
  have HDL := Lib.hid (Nat.le_trans (ofR_length D) hDl)
  have HP0 := Lib.hid (posR_of HDG.out (by omega))
  obtain ⟨L, hL⟩ : ∃ L, l.length = L := ⟨_, rfl⟩
  have HLL := Lib.hid hL
  rw [hL] at hl hcap hcl HLE HV HST HCT hD1 ⊢
  obtain ⟨sty, hsty⟩ : ∃ sty : Nat → Int, (fun p => D.getD p 0) = sty := ⟨_, rfl⟩
  have HSTY : Hid (∀ p, D.getD p 0 = sty p) := Lib.hid (fun p => by rw [← hsty])
  rw [hsty]
  obtain ⟨f1, f2⟩ := hf
  clear hv hL hb hg hc hD hN hrl hsty hnr hDl
  go_enter Tryz.func159, Tryz.ntmps159
  go_wp2_with fail
  refine HST.out.mono ?_
  rintro e w1 ⟨sv, rfl, b1, s1⟩
  have H1 := Lib.hid (And.intro b1 s1)
  clear b1 s1
  go_wp2_with fail
  refine (HCT.out _ H1.out.1).mono ?_
  rintro e w2 ⟨rfl, b2⟩
  have H2 := Lib.hid (And.intro (H1.out.1.trans b2) (H1.out.2.later b2))
  clear b2
  go_wp2_with fail
  refine (HGR.out _).mono ?_
  rintro e w3 ⟨ov, rfl, b3, o3⟩
  have H3 := Lib.hid (And.intro (H2.out.1.trans b3) (And.intro (H2.out.2.later b3) (o3.wide H2.out.1.below.size)))
  clear b3 o3
  go_wp2_with fail
  go_loopg [7, 8, 9] c (fun kk sv ov av wr => AnyLater w wr ∧ ∃ j : Nat, kk = c - j ∧ j ≤ c ∧ av = .int .i64 (it l j) ∧ OF celF 160 wr w.heap.size ov (celsU l sty j) ∧ ∃ Q : Runs, StR w.heap.size wr sv Q ∧ PosR Q ∧ Q.length ≤ 900 ∧ expR Q = D.drop (it l j))
  case atStart => exact ⟨H3.out.1, 0, by omega, by omega, rfl, H3.out.2.2, ofR D, H3.out.2.1, HP0.out, HDL.out, by rw [expR_of]; rfl⟩
  case round =>
    obtain ⟨a_wr, j, hk, hj, rfl, ho, Q, hs, hp, hQ, hE⟩ := hrel
    have HA := Lib.hid a_wr
    have HO := Lib.hid ho
    have HS := Lib.hid hs
    have HP := Lib.hid hp
    have HE := Lib.hid hE
    have hpl := HLE.out j
    obtain ⟨A3, c3, rfl, h3⟩ := ho.form
    obtain ⟨A4, c4, rfl, h4⟩ := hs.form
    rw [celsU_length] at HO h3 ⊢
    obtain ⟨p, hp2⟩ : ∃ p, it l j = p := ⟨_, rfl⟩
    have HPP := Lib.hid hp2
    rw [hp2] at hpl HE ⊢
    clear ho hs hp hE
    by_cases hlt : p < L
    · have hjc : j < c := (HC.out.end_iff hj).1 (by rw [HLL.out, hp2]; exact hlt)
      obtain ⟨r, k, hdec⟩ : ∃ r k, decU (l.drop p) = (r, k) := ⟨_, _, rfl⟩
      obtain ⟨u, hu, hcut⟩ := HV.out.cut p (by rw [HLL.out]; omega)
      have hrk := dec_rune (HB.out.drop p)
      have hlk := dec_len (HB.out.drop p)
      rw [hdec, List.length_drop, HLL.out] at hlk
      rw [hdec] at hrk
      have hk4 := hlk.2.2
      have hk1 := hlk.1
      have HIT : Hid (it l (j + 1) = p + k) := Lib.hid (by rw [it_succ, hp2, hdec])
      have HD : Hid (Calls Tryz.prog 198 #[u] wr fun e w'' => e = .returned (.tuple #[.int .i32 r, .int .i64 (k : Int)]) ∧ AnyLater wr w'') := Lib.hid (dec_any u (l.drop p) wr r k hdec (hu.later a_wr) (HB.out.drop p) (by rw [List.length_drop, HLL.out]; omega) (HG.out.later a_wr))
      have HCS : Hid (celsU l sty (j + 1) = celsU l sty j ++ [((p : Int), (k : Int), r, sty p)]) := Lib.hid (by rw [celsU_succ, hp2, hdec])
      have HFI : Hid ((Q.head?.map (·.2)).getD 0 = sty p) := Lib.hid (by rw [← first_exp HP.out, HE.out, getD_drop, HSTY.out])
      have HEX : Hid (expR (behR Q k) = D.drop (it l (j + 1))) := Lib.hid (by rw [behR_exp HP.out, HE.out, List.drop_drop, HIT.out])
      have HQP : Hid (PosR (behR Q k)) := Lib.hid (behR_pos HP.out)
      have HQL : Hid ((behR Q k).length ≤ 900) := Lib.hid (Nat.le_trans behR_len hQ)
      obtain ⟨y, hy⟩ : ∃ y, sty p = y := ⟨_, rfl⟩
      rw [hy] at HCS HFI
      simp only at hk4 hk1 hrk
      clear hu hdec hlk a_wr hp2 hy
      go_wp2_with fail
      refine HD.out.mono ?_
      rintro e w4 ⟨rfl, b4⟩
      have H4 := Lib.hid (And.intro (HA.out.trans b4) (And.intro (OF.later b4 HO.out) (HS.out.later b4)))
      clear b4
      go_wp2_with fail
      refine (cfirst_any _ Q _ _ y HFI.out H4.out.2.2).mono ?_
      rintro e w5 ⟨rfl, rfl⟩
      obtain ⟨u2, w6, k1, k2, k3, k4⟩ := appF1 celFT ((p : Int), (k : Int), r, y) (cs := #[.int .i64 (p : Int), .int .i64 (k : Int), .int .i32 r, .int .i64 y]) rfl H4.out.2.1 H4.out.1.below.size (by rw [celsU_length]; omega)
      have K1 := Lib.hid k1
      have K3 := Lib.hid (k3 w (Nat.le_refl _) H4.out.1)
      have K2 : Hid (OF celF 160 w6 w.heap.size u2 (celsU l sty (j + 1))) := Lib.hid (by rw [HCS.out]; exact k2)
      have HS6 : Hid (StR w.heap.size w6 (.slice A4 Q.length c4) Q) := Lib.hid (H4.out.2.2.grown H4.out.2.1 k4)
      clear k1 k2 k3 k4
      go_wp2_with (at_builtin; refine Lib.wpList_append_run _ rfl _ _ _ _ rfl _ _ rfl rfl _ _ K1.out ?_)
      refine (cbehind_any _ Q k _ _ HS6.out HP.out (by omega) (by omega)).mono ?_
      rintro e w7 ⟨u3, rfl, s7, t7⟩
      have H7 := Lib.hid (And.intro (t7.any (Nat.le_refl _) K3.out) (And.intro (t7.cels K2.out) s7))
      clear s7 t7
      go_wp2_with fail
      go_roundg (c - (j + 1))
      case measure => omega
      case rel => exact ⟨H7.out.1, j + 1, rfl, by omega, by rw [HIT.out, Int.natCast_add], H7.out.2.1, behR Q k, H7.out.2.2, HQP.out, HQL.out, HEX.out⟩
    · have hjc : j = c := by
        rcases Nat.lt_or_ge j c with h | h
        · have := HC.out.lt j h; rw [HPP.out, HLL.out] at this; omega
        · omega
      subst hjc
      obtain rfl : p = L := by omega
      clear a_wr hp2
      go_wp2_with fail
      go_ret
      exact ⟨_, rfl, HA.out, HO.out⟩
end Go.Proofs.YtamhnffokoejjaaGreatDoor
