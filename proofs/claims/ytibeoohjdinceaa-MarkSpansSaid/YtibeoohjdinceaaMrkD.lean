/- mark: MarkSpans, walked. -/
import Derived.Test.YtibeoohjdinceaaMrkB
import Derived.Test.YtibeoohjdinceaaMrkC
import Derived.Test.YtibeoohjdinceaaMake
import Derived.BigQuiet
import Derived.Deep.RegionWith
import Derived.Deep.DeepCutAuto
namespace Go.Proofs.Ytibeoohjdinceaa
set_option linter.unusedSimpArgs false
set_option linter.unusedVariables false
set_option linter.unusedSectionVars false
open Go.RowKit

theorem spansZ_one {a o i : Int} {s : Int × Int} : spansZ a o i [s] = (spanZ a o i s).toList := by
  unfold spansZ
  cases h : spanZ a o i s <;> simp [h]
set_option maxRecDepth 100000 in
set_option maxHeartbeats 3200000 in
theorem markSpans_cut (A0 : Option Addr) (n0 c0' : Nat) (W : World) (l : Qs) (n cap : Nat) (a o i : Int) (A : Option Addr) (hl : l.length = n) (hn : n ≤ 40) (hv : QR W (.slice A n cap) l)
    (hsl : (n0 ≤ 40 ∧ A0 = A ∧ n0 = n ∧ c0' = cap) ∨ (40 < n0 ∧ ∀ w', (Instr.sliceAt 29 (.slice A0 n0 c0') none (some (.int .i64 40)) none).run Try.prog w' = .ok (.slice A n cap) w')) :
    Calls Try.prog 5 #[.slice A0 n0 c0', .agg #[.int .i64 a, .int .i64 o, .int .i64 i]] W fun e W' => e = .returned (.bool true) ∧ AnyLater W W' := by
  generalize W = w at *
  have HV := Lib.hid hv
  have HN := Lib.hid hl
  obtain ⟨M, hM⟩ : ∃ M, spansZ a o i l = M := ⟨_, rfl⟩
  have HR : Hid (∀ w', AnyLater w w' → QR w' (.slice A n cap) l) := Lib.hid (fun w' h => hv.later h)
  have HAll := Lib.hid (fun (w' : World) u (h : QR w' u l) => (mall_any u l a o i M w' hM h (by omega)).mono fun _ _ (⟨v, h1, h2, h3⟩ : RowS w' M _ _) => (⟨v, h1, h2, OQ.rq h3⟩ : ∃ v, _ = Ending.returned v ∧ _ ∧ QR _ v M))
  have HXAll := Lib.hid (fun (w' : World) (h : AnyLater w w') => (xall_any _ l a o i M w' hM (HV.out.later h) (by omega)).mono fun _ _ (⟨v, h1, h2, h3⟩ : RowS w' M _ _) => (⟨v, h1, h2, OQ.rq h3⟩ : ∃ v, _ = Ending.returned v ∧ _ ∧ QR _ v M))
  have HML : Hid (M.length ≤ 100000) := Lib.hid (by have := spansZ_le a o i l; rw [hM] at this; omega)
  have HSame := Lib.hid (fun (w' : World) u v (h : QR w' u M) (h2 : QR w' v M) => qsame_any u v M M w' true (decide_eq_true rfl) h h2 HML.out)
  have HLen : Hid (l.length ≤ 190000) := Lib.hid (by omega)
  have HCC : Hid (∀ (j : Nat) (h : j < l.length), ∃ b off, A = some ⟨b, off, none⟩ ∧ b < w.heap.size ∧ w.cell? ⟨b, off + j * 2, none⟩ = some (.int .i64 l[j].1) ∧ w.cell? ⟨b, off + j * 2 + 1, none⟩ = some (.int .i64 l[j].2)) := Lib.hid (fun j hj => hv.at j hj)
  have nb := neqSpan
  have gb := guard_span
  clear hv hl
  rcases hsl with ⟨hs, rfl, rfl, rfl⟩ | ⟨hs, hsl⟩
  · have d0 : decide ((40 : Int) < (n0 : Int)) = false := decide_eq_false (by omega)
    clear hs
    go_enter Try.func5, Try.ntmps5
    go_wp2_with fail
    first | refine settle_wp (fun wS => AnyLater w wS ∧ wS.heap[w.heap.size]? = some (.cells #[.int .i64 a, .int .i64 o, .int .i64 i] 23)) ?_ ?_ | refine settle_calls (fun wS => AnyLater w wS ∧ wS.heap[w.heap.size]? = some (.cells #[.int .i64 a, .int .i64 o, .int .i64 i] 23)) ?_ ?_
    · refine ⟨?_, ?_⟩
      · repeat' (first | with_reducible assumption | with_reducible exact AnyLater.refl _ | with_reducible apply AnyLater.setCell | with_reducible apply AnyLater.later | with_reducible apply AnyLater.drewN | with_reducible apply AnyLater.drew | with_reducible apply AnyLater.alloc | ((try simp only [World.size_alloc, World.size_setCell, World.size_drew]); (try dsimp only); omega))
      · ((repeat (first | with_reducible assumption | ((with_reducible apply heap_new); (try simp only [World.size_alloc, World.size_setCell, World.size_drew, World.heap_drewN]); done) | ((with_reducible apply heap_new); (try simp only [World.size_alloc, World.size_setCell, World.size_drew, World.heap_drewN]); omega) | (with_reducible refine heap_old (by (try simp only [World.size_alloc, World.size_setCell, World.size_drew, World.heap_drewN]); omega) ?_) | (with_reducible refine heap_drew ?_) | (with_reducible refine heap_far (by omega) ?_) | (with_reducible apply heap_at))); all_goals rfl)
    rintro w1 ⟨b_w1, s0_w1⟩
    have a_w1 := b_w1
    have r0_w1 := own_row s0_w1
    have f0_w1 := own_free s0_w1
    have l0_w1 := own_lt s0_w1
    have z_w1 := b_w1.below.size
    apply Wild.wp_region_free (10) [⟨0, 14, undef, true, isE⟩, ⟨2, 16, undef, true, fun u w => QR w u l⟩, ⟨4, 18, undef, true, fun u w => QR w u M⟩, ⟨7, 21, undef, true, fun u w => QR w u M⟩, ⟨8, 22, .bool true, false, fun v _ => v = .bool true⟩] [⟨0, 14, isE⟩, ⟨2, 16, fun u w => QR w u l⟩, ⟨4, 18, fun u w => QR w u M⟩, ⟨7, 21, fun u w => QR w u M⟩] rfl (by kernel_rfl) (by kernel_rfl) (by kernel_rfl) (by simp) (by kernel_rfl)
    case hstab =>
      intro c hc
      simp only [List.mem_cons, List.not_mem_nil, or_false] at hc
      rcases hc with rfl | rfl | rfl | rfl | rfl
      · intro v x y hxy hv; exact isE.stays hxy hv
      · intro v x y hxy hv; exact (fun h k => QR.later k h) hxy hv
      · intro v x y hxy hv; exact (fun h k => QR.later k h) hxy hv
      · intro v x y hxy hv; exact (fun h k => QR.later k h) hxy hv
      · intro v x y hxy hv; exact hv
    case hfix =>
      intro c hc
      simp only [List.mem_cons, List.not_mem_nil, or_false] at hc
      rcases hc with rfl | rfl | rfl | rfl | rfl
      · exact .inl rfl
      · exact .inl rfl
      · exact .inl rfl
      · exact .inl rfl
      · exact .inr fun u x h => h
    case hlex =>
      intro U hU
      have q0 := own_row (any_own hU s0_w1)
      simp only [List.map_cons, List.map_nil, CA.act, actFrom, actOp, List.lookup, Nat.reduceBEq, Nat.reduceLeDiff, Nat.reduceAdd, if_false, if_true]
      repeat (go_big_quiet_step (fail))
      exact wpQuiet_nil rfl
    case hstep =>
      intro j hj o ho
      have hj2 : j = 0 ∨ j = 1 ∨ j = 2 ∨ j = 3 ∨ j = 4 := by simp at hj; omega
      rcases hj2 with rfl | rfl | rfl | rfl | rfl
      · cases ho
        refine ⟨rfl, fun g x hx hp => ?_⟩
        clear hp
        simp only [fillAll, Act.put, List.setIfInBounds_toArray, List.set_cons_zero, List.set_cons_succ]
        refine Wild.free_make (v := .slice (some ⟨x.heap.size, 0, none⟩) 0 0) (w' := x.alloc (.cells #[] 33)) (by simp [go_sem, execOp]) ((AnyLater.refl x).alloc _) ⟨_, rfl⟩
      · cases ho
        refine ⟨rfl, fun g x hx hp => ?_⟩
        have p14 : (isE) (g 0) x := hp _ (List.mem_of_getElem? (i := 0) rfl) (List.contains_iff_mem.1 (by kernel_rfl))
        clear hp
        simp only [fillAll, Act.put, List.setIfInBounds_toArray, List.set_cons_zero, List.set_cons_succ]
        (obtain ⟨v', w', q1, q2, q3⟩ := copyE pairSpan p14 (HR.out x (a_w1.trans hx)) HLen.out; exact Wild.free_app _ _ _ _ rfl _ _ rfl rfl q1 q2 q3)
      · cases ho
        refine ⟨rfl, fun g x hx hp => ?_⟩
        have p16 : (fun u w => QR w u l) (g 2) x := hp _ (List.mem_of_getElem? (i := 1) rfl) (List.contains_iff_mem.1 (by kernel_rfl))
        clear hp
        simp only [fillAll, Act.put, List.setIfInBounds_toArray, List.set_cons_zero, List.set_cons_succ]
        refine chain_go ?_ (Wild.free_tells (HAll.out x _ p16))
        simp [go_sem, execOp]
      · cases ho
        refine ⟨rfl, fun g x hx hp => ?_⟩
        clear hp
        simp only [fillAll, Act.put, List.setIfInBounds_toArray, List.set_cons_zero, List.set_cons_succ]
        refine chain_go ?_ (Wild.free_tells (HXAll.out x (a_w1.trans hx)))
        simp [go_sem, execOp]
      · cases ho
        refine ⟨rfl, fun g x hx hp => ?_⟩
        have p18 : (fun u w => QR w u M) (g 4) x := hp _ (List.mem_of_getElem? (i := 2) rfl) (List.contains_iff_mem.1 (by kernel_rfl))
        have p21 : (fun u w => QR w u M) (g 7) x := hp _ (List.mem_of_getElem? (i := 3) rfl) (List.contains_iff_mem.1 (by kernel_rfl))
        clear hp
        simp only [fillAll, Act.put, List.setIfInBounds_toArray, List.set_cons_zero, List.set_cons_succ]
        refine chain_go ?_ (Wild.free_fix (HSame.out x _ _ p18 p21))
        simp [go_sem, execOp]
    case htail =>
      intro g u hst hne
      have b_w2 : AnyLater w1 (later u) := ⟨u, rfl⟩
      generalize later u = w2 at *
      clear u hne
      obtain ⟨p14_w2, -⟩ := hst _ (List.mem_of_getElem? (i := 0) rfl)
      (try dsimp only at p14_w2)
      obtain ⟨p16_w2, -⟩ := hst _ (List.mem_of_getElem? (i := 1) rfl)
      (try dsimp only at p16_w2)
      obtain ⟨p18_w2, -⟩ := hst _ (List.mem_of_getElem? (i := 2) rfl)
      (try dsimp only at p18_w2)
      obtain ⟨p21_w2, -⟩ := hst _ (List.mem_of_getElem? (i := 3) rfl)
      (try dsimp only at p21_w2)
      clear hst
      simp only [fillAll, Act.put, List.setIfInBounds_toArray, List.set_cons_zero, List.set_cons_succ, List.drop_succ_cons, List.drop_zero, List.drop_nil]
      generalize g 0 = v14 at *
      generalize g 2 = v16 at *
      generalize g 4 = v18 at *
      generalize g 7 = v21 at *
      have z_w2 := b_w2.below.size
      have a_w2 := a_w1.trans b_w2
      have s0_w2 := any_own b_w2 s0_w1
      have r0_w2 := own_row s0_w2
      have f0_w2 := own_free s0_w2
      have l0_w2 := own_lt s0_w2
      (try clear r0_w1); (try clear f0_w1)
      clear p14_w2 p16_w2 p18_w2 p21_w2
      go_wp2_with fail
      go_loopg [5] n0 (fun kk iv wr => ∃ (j : Nat), kk = n0 - j ∧ j ≤ n0 ∧ iv = .int .i64 (j : Int) ∧ AnyLater w2 wr)
      case atStart => exact ⟨0, by omega, by omega, rfl, AnyLater.refl _⟩
      case round =>
        obtain ⟨j, hk, hj, rfl, b_wr⟩ := hrel
        have HB := Lib.hid b_wr
        have a_wr := a_w2.trans b_wr
        have s0_wr := any_own b_wr s0_w2
        by_cases hlt : j < n0
        · have lj : j < l.length := by rw [HN.out]; exact hlt
          have i0 : (j : Int) < (n0 : Int) := by omega
          obtain ⟨b, off, rfl, hb, k0, k1⟩ := HCC.out j lj
          have c0 : wr.cell? ⟨b, off + j * 2, none⟩ = some (.int .i64 l[j].1) := (a_wr.below.cell hb).trans k0
          have c1 : wr.cell? ⟨b, off + j * 2 + 1, none⟩ = some (.int .i64 l[j].2) := (a_wr.below.cell hb).trans k1
          have l1 : b < wr.heap.size := Nat.lt_of_lt_of_le hb a_wr.below.size
          have r0_wr := own_row s0_wr
          have l0_wr := own_lt s0_wr
          clear k0 k1
          generalize l[j] = s at *
          obtain ⟨f, t⟩ := s
          simp only at c0 c1
          have hone : spansZ a o i [(f, t)] = (spanZ a o i (f, t)).toList := spansZ_one
          rcases hsp : spanZ a o i (f, t) with _ | ⟨p, q⟩
          · have HSp := Lib.hid (fun w => mspan_no f t a o i _ _ w rfl rfl (spanZ_none hsp))
            rw [hsp] at hone
            have HOne := Lib.hid (fun (w' : World) u (h : QR w' u [(f, t)]) => (xall_any u _ a o i [] w' hone h (by simp)).mono fun _ _ (⟨v, h1, h2, h3⟩ : RowS w' [] _ _) => (⟨v, h1, h2, OQ.rq h3⟩ : ∃ v, _ = Ending.returned v ∧ _ ∧ QR _ v []))
            clear hsp hone
            go_upto_region 8 with fail
            go_cut [6, 7] (fun v6 v7 wx => ∃ b6, v6 = .pointer (some ⟨b6, 0, none⟩) ∧ v7 = .bool false ∧ AnyLater wr wx ∧ wx.heap[b6]? = some (.cells #[.int .i64 0, .int .i64 0] 33))
            case first =>
              go_region_with (go_at_call 19; refine (HSp.out _).mono ?_; rintro e w3 ⟨rfl, b_w3⟩; try (have s9 := any_own b_w3 (show (wr.drew.alloc (.cells #[.int .i64 0, .int .i64 0] 33)).heap[wr.heap.size]? = _ from heap_new (by simp)); have r9 := own_row s9; have f9 := own_free s9; have l9 := own_lt s9))
              all_goals
                go_wp2_with fail
                go_meet
                case rel => first | exact ⟨_, rfl, rfl, ((AnyLater.refl wr).drew.trans b_w3).alloc _, heap_new rfl⟩ | exact ⟨_, rfl, rfl, ((((AnyLater.refl wr).alloc _).drew.trans b_w3).setCell (p := ⟨wr.heap.size, 0, none⟩) (Nat.le_refl _) _).setCell (p := ⟨wr.heap.size, 1, none⟩) (Nat.le_refl _) _, heap_at (heap_at s9 rfl) rfl⟩
            case rest =>
              obtain ⟨b6, rfl, rfl, b_wc, s1_wc⟩ := hcut
              have a_wc := a_wr.trans b_wc
              have s0_wc := any_own b_wc s0_wr
              have c0_wc := cell_on b_wc c0
              have c1_wc := cell_on b_wc c1
              go_wp2_with fail
              apply Wild.wp_region_free (7) [⟨4, 43, undef, true, fun u w => QR w u [(f, t)]⟩, ⟨6, 45, undef, true, fun u w => QR w u []⟩] [⟨4, 43, fun u w => QR w u [(f, t)]⟩, ⟨6, 45, fun u w => QR w u []⟩] rfl (by kernel_rfl) (by kernel_rfl) (by kernel_rfl) (by simp) (by kernel_rfl)
              case hstab =>
                intro c hc
                simp only [List.mem_cons, List.not_mem_nil, or_false] at hc
                rcases hc with rfl | rfl
                · intro v x y hxy hv; exact (fun h k => QR.later k h) hxy hv
                · intro v x y hxy hv; exact (fun h k => QR.later k h) hxy hv
              case hfix =>
                intro c hc
                simp only [List.mem_cons, List.not_mem_nil, or_false] at hc
                rcases hc with rfl | rfl
                · exact .inl rfl
                · exact .inl rfl
              case hlex =>
                intro U hU
                have q0 := own_row (any_own hU s0_wc)
                have q1 := own_row (any_own hU s1_wc)
                have q_c0_wc := cell_on hU c0_wc
                have q_c1_wc := cell_on hU c1_wc
                simp only [List.map_cons, List.map_nil, CA.act, actFrom, actOp, List.lookup, Nat.reduceBEq, Nat.reduceLeDiff, Nat.reduceAdd, if_false, if_true]
                repeat (go_big_quiet_step (fail))
                exact wpQuiet_nil rfl
              case hstep =>
                intro j hj o ho
                have hj2 : j = 0 ∨ j = 1 := by simp at hj; omega
                rcases hj2 with rfl | rfl
                · cases ho
                  refine ⟨rfl, fun g x hx hp => ?_⟩
                  clear hp
                  simp only [fillAll, Act.put, List.setIfInBounds_toArray, List.set_cons_zero, List.set_cons_succ]
                  refine Wild.free_make (v := .slice (some ⟨x.heap.size, 0, none⟩) 1 1) (w' := x.alloc (.cells #[.int .i64 f, .int .i64 t] 33)) (by simp [go_sem, execOp]) ((AnyLater.refl x).alloc _) (OQ.rq (OQ.one (B := 0) (r := (f, t)) (Nat.zero_le _) (heap_new rfl)))
                · cases ho
                  refine ⟨rfl, fun g x hx hp => ?_⟩
                  have p43 : (fun u w => QR w u [(f, t)]) (g 4) x := hp _ (List.mem_of_getElem? (i := 0) rfl) (List.contains_iff_mem.1 (by kernel_rfl))
                  clear hp
                  simp only [fillAll, Act.put, List.setIfInBounds_toArray, List.set_cons_zero, List.set_cons_succ]
                  refine chain_go ?_ (Wild.free_tells (HOne.out x _ p43))
                  simp [go_sem, execOp]
              case htail =>
                intro g u hst hne
                have b_w5 : AnyLater wc (later u) := ⟨u, rfl⟩
                generalize later u = w5 at *
                clear u hne
                obtain ⟨p43_w5, -⟩ := hst _ (List.mem_of_getElem? (i := 0) rfl)
                (try dsimp only at p43_w5)
                obtain ⟨p45_w5, -⟩ := hst _ (List.mem_of_getElem? (i := 1) rfl)
                (try dsimp only at p45_w5)
                clear hst
                simp only [fillAll, Act.put, List.setIfInBounds_toArray, List.set_cons_zero, List.set_cons_succ, List.drop_succ_cons, List.drop_zero, List.drop_nil]
                generalize g 4 = v43 at *
                generalize g 6 = v45 at *
                have z_w5 := b_w5.below.size
                have a_w5 := a_wc.trans b_w5
                have s0_w5 := any_own b_w5 s0_wc
                have s1_w5 := any_own b_w5 s1_wc
                have r0_w5 := own_row s0_w5
                have f0_w5 := own_free s0_w5
                have l0_w5 := own_lt s0_w5
                have r1_w5 := own_row s1_w5
                have f1_w5 := own_free s1_w5
                have l1_w5 := own_lt s1_w5
                (try clear r0_wc); (try clear f0_wc)
                (try clear r1_wc); (try clear f1_wc)
                have c0_wc_w5 := cell_on b_w5 c0_wc
                have c1_wc_w5 := cell_on b_w5 c1_wc
                obtain ⟨A5, c5, rfl, -⟩ := p45_w5.form
                simp only [List.length_nil]
                go_wp2_with fail
                go_quiet (fail)
                go_wp2_with fail
                go_roundg (n0 - (j + 1))
                case measure => omega
                case rel => exact ⟨j + 1, rfl, hlt, by go_num, (HB.out.trans (b_wc.trans b_w5)).drewN _⟩
          · obtain ⟨e1, e2, e3⟩ := spanZ_some hsp
            have HSp := Lib.hid (fun w => mspan_yes f t a o i p q w e1 e2 e3)
            rw [hsp] at hone
            have HOne := Lib.hid (fun (w' : World) u (h : QR w' u [(f, t)]) => (xall_any u _ a o i [(p, q)] w' hone h (by simp)).mono fun _ _ (⟨v, h1, h2, h3⟩ : RowS w' [(p, q)] _ _) => (⟨v, h1, h2, OQ.rq h3⟩ : ∃ v, _ = Ending.returned v ∧ _ ∧ QR _ v [(p, q)]))
            clear hsp hone e1 e2 e3
            go_upto_region 8 with fail
            go_cut [6, 7] (fun v6 v7 wx => ∃ b6, v6 = .pointer (some ⟨b6, 0, none⟩) ∧ v7 = .bool true ∧ AnyLater wr wx ∧ wx.heap[b6]? = some (.cells #[.int .i64 p, .int .i64 q] 33))
            case first =>
              go_region_with (go_at_call 19; refine (HSp.out _).mono ?_; rintro e w3 ⟨rfl, b_w3⟩; try (have s9 := any_own b_w3 (show (wr.drew.alloc (.cells #[.int .i64 0, .int .i64 0] 33)).heap[wr.heap.size]? = _ from heap_new (by simp)); have r9 := own_row s9; have f9 := own_free s9; have l9 := own_lt s9))
              all_goals
                go_wp2_with fail
                go_meet
                case rel => first | exact ⟨_, rfl, rfl, ((AnyLater.refl wr).drew.trans b_w3).alloc _, heap_new rfl⟩ | exact ⟨_, rfl, rfl, ((((AnyLater.refl wr).alloc _).drew.trans b_w3).setCell (p := ⟨wr.heap.size, 0, none⟩) (Nat.le_refl _) _).setCell (p := ⟨wr.heap.size, 1, none⟩) (Nat.le_refl _) _, heap_at (heap_at s9 rfl) rfl⟩
            case rest =>
              obtain ⟨b6, rfl, rfl, b_wc, s1_wc⟩ := hcut
              have a_wc := a_wr.trans b_wc
              have s0_wc := any_own b_wc s0_wr
              have c0_wc := cell_on b_wc c0
              have c1_wc := cell_on b_wc c1
              go_wp2_with fail
              apply Wild.wp_region_free (7) [⟨4, 43, undef, true, fun u w => QR w u [(f, t)]⟩, ⟨6, 45, undef, true, fun u w => QR w u [(p, q)]⟩] [⟨4, 43, fun u w => QR w u [(f, t)]⟩, ⟨6, 45, fun u w => QR w u [(p, q)]⟩] rfl (by kernel_rfl) (by kernel_rfl) (by kernel_rfl) (by simp) (by kernel_rfl)
              case hstab =>
                intro c hc
                simp only [List.mem_cons, List.not_mem_nil, or_false] at hc
                rcases hc with rfl | rfl
                · intro v x y hxy hv; exact (fun h k => QR.later k h) hxy hv
                · intro v x y hxy hv; exact (fun h k => QR.later k h) hxy hv
              case hfix =>
                intro c hc
                simp only [List.mem_cons, List.not_mem_nil, or_false] at hc
                rcases hc with rfl | rfl
                · exact .inl rfl
                · exact .inl rfl
              case hlex =>
                intro U hU
                have q0 := own_row (any_own hU s0_wc)
                have q1 := own_row (any_own hU s1_wc)
                have q_c0_wc := cell_on hU c0_wc
                have q_c1_wc := cell_on hU c1_wc
                simp only [List.map_cons, List.map_nil, CA.act, actFrom, actOp, List.lookup, Nat.reduceBEq, Nat.reduceLeDiff, Nat.reduceAdd, if_false, if_true]
                repeat (go_big_quiet_step (fail))
                exact wpQuiet_nil rfl
              case hstep =>
                intro j hj o ho
                have hj2 : j = 0 ∨ j = 1 := by simp at hj; omega
                rcases hj2 with rfl | rfl
                · cases ho
                  refine ⟨rfl, fun g x hx hp => ?_⟩
                  clear hp
                  simp only [fillAll, Act.put, List.setIfInBounds_toArray, List.set_cons_zero, List.set_cons_succ]
                  refine Wild.free_make (v := .slice (some ⟨x.heap.size, 0, none⟩) 1 1) (w' := x.alloc (.cells #[.int .i64 f, .int .i64 t] 33)) (by simp [go_sem, execOp]) ((AnyLater.refl x).alloc _) (OQ.rq (OQ.one (B := 0) (r := (f, t)) (Nat.zero_le _) (heap_new rfl)))
                · cases ho
                  refine ⟨rfl, fun g x hx hp => ?_⟩
                  have p43 : (fun u w => QR w u [(f, t)]) (g 4) x := hp _ (List.mem_of_getElem? (i := 0) rfl) (List.contains_iff_mem.1 (by kernel_rfl))
                  clear hp
                  simp only [fillAll, Act.put, List.setIfInBounds_toArray, List.set_cons_zero, List.set_cons_succ]
                  refine chain_go ?_ (Wild.free_tells (HOne.out x _ p43))
                  simp [go_sem, execOp]
              case htail =>
                intro g u hst hne
                have b_w5 : AnyLater wc (later u) := ⟨u, rfl⟩
                generalize later u = w5 at *
                clear u hne
                obtain ⟨p43_w5, -⟩ := hst _ (List.mem_of_getElem? (i := 0) rfl)
                (try dsimp only at p43_w5)
                obtain ⟨p45_w5, -⟩ := hst _ (List.mem_of_getElem? (i := 1) rfl)
                (try dsimp only at p45_w5)
                clear hst
                simp only [fillAll, Act.put, List.setIfInBounds_toArray, List.set_cons_zero, List.set_cons_succ, List.drop_succ_cons, List.drop_zero, List.drop_nil]
                generalize g 4 = v43 at *
                generalize g 6 = v45 at *
                have z_w5 := b_w5.below.size
                have a_w5 := a_wc.trans b_w5
                have s0_w5 := any_own b_w5 s0_wc
                have s1_w5 := any_own b_w5 s1_wc
                have r0_w5 := own_row s0_w5
                have f0_w5 := own_free s0_w5
                have l0_w5 := own_lt s0_w5
                have r1_w5 := own_row s1_w5
                have f1_w5 := own_free s1_w5
                have l1_w5 := own_lt s1_w5
                (try clear r0_wc); (try clear f0_wc)
                (try clear r1_wc); (try clear f1_wc)
                have c0_wc_w5 := cell_on b_w5 c0_wc
                have c1_wc_w5 := cell_on b_w5 c1_wc
                obtain ⟨A5, c5, rfl, -⟩ := p45_w5.form
                obtain ⟨b5, off5, rfl, hb5, g0, g1⟩ := p45_w5.at 0 (by simp)
                simp only [List.length_cons, List.length_nil, Nat.zero_mul, Nat.add_zero, Nat.zero_add, List.getElem_cons_zero] at g0 g1 ⊢
                go_wp2_with fail
                go_quiet (fail)
                go_wp2_with fail
                go_roundg (n0 - (j + 1))
                case measure => omega
                case rel => exact ⟨j + 1, rfl, hlt, by go_num, (HB.out.trans (b_wc.trans b_w5)).drewN _⟩
        · obtain rfl : j = n0 := by omega
          have d9 : decide ((j : Int) < (j : Int)) = false := by simp
          go_wp2_with fail
          refine (mlives_any _).mono ?_
          rintro e w6 ⟨rfl, b_w6⟩
          have z_w6 := b_w6.below.size
          have a_w6 := a_wr.trans b_w6
          go_wp2_with fail
          go_ret
          exact ⟨rfl, a_w6⟩
  · have d0 : (40 : Int) < (n0 : Int) := by omega
    clear hs
    go_enter Try.func5, Try.ntmps5
    go_wp2_with fail
    first | refine settle_wp (fun wS => AnyLater w wS ∧ wS.heap[w.heap.size]? = some (.cells #[.int .i64 a, .int .i64 o, .int .i64 i] 23)) ?_ ?_ | refine settle_calls (fun wS => AnyLater w wS ∧ wS.heap[w.heap.size]? = some (.cells #[.int .i64 a, .int .i64 o, .int .i64 i] 23)) ?_ ?_
    · refine ⟨?_, ?_⟩
      · repeat' (first | with_reducible assumption | with_reducible exact AnyLater.refl _ | with_reducible apply AnyLater.setCell | with_reducible apply AnyLater.later | with_reducible apply AnyLater.drewN | with_reducible apply AnyLater.drew | with_reducible apply AnyLater.alloc | ((try simp only [World.size_alloc, World.size_setCell, World.size_drew]); (try dsimp only); omega))
      · ((repeat (first | with_reducible assumption | ((with_reducible apply heap_new); (try simp only [World.size_alloc, World.size_setCell, World.size_drew, World.heap_drewN]); done) | ((with_reducible apply heap_new); (try simp only [World.size_alloc, World.size_setCell, World.size_drew, World.heap_drewN]); omega) | (with_reducible refine heap_old (by (try simp only [World.size_alloc, World.size_setCell, World.size_drew, World.heap_drewN]); omega) ?_) | (with_reducible refine heap_drew ?_) | (with_reducible refine heap_far (by omega) ?_) | (with_reducible apply heap_at))); all_goals rfl)
    rintro w1 ⟨b_w1, s0_w1⟩
    have a_w1 := b_w1
    have r0_w1 := own_row s0_w1
    have f0_w1 := own_free s0_w1
    have l0_w1 := own_lt s0_w1
    have z_w1 := b_w1.below.size
    apply Wild.wp_region_free (10) [⟨0, 14, undef, true, isE⟩, ⟨2, 16, undef, true, fun u w => QR w u l⟩, ⟨4, 18, undef, true, fun u w => QR w u M⟩, ⟨7, 21, undef, true, fun u w => QR w u M⟩, ⟨8, 22, .bool true, false, fun v _ => v = .bool true⟩] [⟨0, 14, isE⟩, ⟨2, 16, fun u w => QR w u l⟩, ⟨4, 18, fun u w => QR w u M⟩, ⟨7, 21, fun u w => QR w u M⟩] rfl (by kernel_rfl) (by kernel_rfl) (by kernel_rfl) (by simp) (by kernel_rfl)
    case hstab =>
      intro c hc
      simp only [List.mem_cons, List.not_mem_nil, or_false] at hc
      rcases hc with rfl | rfl | rfl | rfl | rfl
      · intro v x y hxy hv; exact isE.stays hxy hv
      · intro v x y hxy hv; exact (fun h k => QR.later k h) hxy hv
      · intro v x y hxy hv; exact (fun h k => QR.later k h) hxy hv
      · intro v x y hxy hv; exact (fun h k => QR.later k h) hxy hv
      · intro v x y hxy hv; exact hv
    case hfix =>
      intro c hc
      simp only [List.mem_cons, List.not_mem_nil, or_false] at hc
      rcases hc with rfl | rfl | rfl | rfl | rfl
      · exact .inl rfl
      · exact .inl rfl
      · exact .inl rfl
      · exact .inl rfl
      · exact .inr fun u x h => h
    case hlex =>
      intro U hU
      have q0 := own_row (any_own hU s0_w1)
      simp only [List.map_cons, List.map_nil, CA.act, actFrom, actOp, List.lookup, Nat.reduceBEq, Nat.reduceLeDiff, Nat.reduceAdd, if_false, if_true]
      repeat (go_big_quiet_step (fail))
      exact wpQuiet_nil rfl
    case hstep =>
      intro j hj o ho
      have hj2 : j = 0 ∨ j = 1 ∨ j = 2 ∨ j = 3 ∨ j = 4 := by simp at hj; omega
      rcases hj2 with rfl | rfl | rfl | rfl | rfl
      · cases ho
        refine ⟨rfl, fun g x hx hp => ?_⟩
        clear hp
        simp only [fillAll, Act.put, List.setIfInBounds_toArray, List.set_cons_zero, List.set_cons_succ]
        refine Wild.free_make (v := .slice (some ⟨x.heap.size, 0, none⟩) 0 0) (w' := x.alloc (.cells #[] 33)) (by simp [go_sem, execOp]) ((AnyLater.refl x).alloc _) ⟨_, rfl⟩
      · cases ho
        refine ⟨rfl, fun g x hx hp => ?_⟩
        have p14 : (isE) (g 0) x := hp _ (List.mem_of_getElem? (i := 0) rfl) (List.contains_iff_mem.1 (by kernel_rfl))
        clear hp
        simp only [fillAll, Act.put, List.setIfInBounds_toArray, List.set_cons_zero, List.set_cons_succ]
        (obtain ⟨v', w', q1, q2, q3⟩ := copyE pairSpan p14 (HR.out x (a_w1.trans hx)) HLen.out; exact Wild.free_app _ _ _ _ rfl _ _ rfl rfl q1 q2 q3)
      · cases ho
        refine ⟨rfl, fun g x hx hp => ?_⟩
        have p16 : (fun u w => QR w u l) (g 2) x := hp _ (List.mem_of_getElem? (i := 1) rfl) (List.contains_iff_mem.1 (by kernel_rfl))
        clear hp
        simp only [fillAll, Act.put, List.setIfInBounds_toArray, List.set_cons_zero, List.set_cons_succ]
        refine chain_go ?_ (Wild.free_tells (HAll.out x _ p16))
        simp [go_sem, execOp]
      · cases ho
        refine ⟨rfl, fun g x hx hp => ?_⟩
        clear hp
        simp only [fillAll, Act.put, List.setIfInBounds_toArray, List.set_cons_zero, List.set_cons_succ]
        refine chain_go ?_ (Wild.free_tells (HXAll.out x (a_w1.trans hx)))
        simp [go_sem, execOp]
      · cases ho
        refine ⟨rfl, fun g x hx hp => ?_⟩
        have p18 : (fun u w => QR w u M) (g 4) x := hp _ (List.mem_of_getElem? (i := 2) rfl) (List.contains_iff_mem.1 (by kernel_rfl))
        have p21 : (fun u w => QR w u M) (g 7) x := hp _ (List.mem_of_getElem? (i := 3) rfl) (List.contains_iff_mem.1 (by kernel_rfl))
        clear hp
        simp only [fillAll, Act.put, List.setIfInBounds_toArray, List.set_cons_zero, List.set_cons_succ]
        refine chain_go ?_ (Wild.free_fix (HSame.out x _ _ p18 p21))
        simp [go_sem, execOp]
    case htail =>
      intro g u hst hne
      have b_w2 : AnyLater w1 (later u) := ⟨u, rfl⟩
      generalize later u = w2 at *
      clear u hne
      obtain ⟨p14_w2, -⟩ := hst _ (List.mem_of_getElem? (i := 0) rfl)
      (try dsimp only at p14_w2)
      obtain ⟨p16_w2, -⟩ := hst _ (List.mem_of_getElem? (i := 1) rfl)
      (try dsimp only at p16_w2)
      obtain ⟨p18_w2, -⟩ := hst _ (List.mem_of_getElem? (i := 2) rfl)
      (try dsimp only at p18_w2)
      obtain ⟨p21_w2, -⟩ := hst _ (List.mem_of_getElem? (i := 3) rfl)
      (try dsimp only at p21_w2)
      clear hst
      simp only [fillAll, Act.put, List.setIfInBounds_toArray, List.set_cons_zero, List.set_cons_succ, List.drop_succ_cons, List.drop_zero, List.drop_nil]
      generalize g 0 = v14 at *
      generalize g 2 = v16 at *
      generalize g 4 = v18 at *
      generalize g 7 = v21 at *
      have z_w2 := b_w2.below.size
      have a_w2 := a_w1.trans b_w2
      have s0_w2 := any_own b_w2 s0_w1
      have r0_w2 := own_row s0_w2
      have f0_w2 := own_free s0_w2
      have l0_w2 := own_lt s0_w2
      (try clear r0_w1); (try clear f0_w1)
      clear p14_w2 p16_w2 p18_w2 p21_w2
      go_wp2_with fail
      go_loopg [5] n (fun kk iv wr => ∃ (j : Nat), kk = n - j ∧ j ≤ n ∧ iv = .int .i64 (j : Int) ∧ AnyLater w2 wr)
      case atStart => exact ⟨0, by omega, by omega, rfl, AnyLater.refl _⟩
      case round =>
        obtain ⟨j, hk, hj, rfl, b_wr⟩ := hrel
        have HB := Lib.hid b_wr
        have a_wr := a_w2.trans b_wr
        have s0_wr := any_own b_wr s0_w2
        by_cases hlt : j < n
        · have lj : j < l.length := by rw [HN.out]; exact hlt
          have i0 : (j : Int) < (n : Int) := by omega
          obtain ⟨b, off, rfl, hb, k0, k1⟩ := HCC.out j lj
          have c0 : wr.cell? ⟨b, off + j * 2, none⟩ = some (.int .i64 l[j].1) := (a_wr.below.cell hb).trans k0
          have c1 : wr.cell? ⟨b, off + j * 2 + 1, none⟩ = some (.int .i64 l[j].2) := (a_wr.below.cell hb).trans k1
          have l1 : b < wr.heap.size := Nat.lt_of_lt_of_le hb a_wr.below.size
          have r0_wr := own_row s0_wr
          have l0_wr := own_lt s0_wr
          clear k0 k1
          generalize l[j] = s at *
          obtain ⟨f, t⟩ := s
          simp only at c0 c1
          have hone : spansZ a o i [(f, t)] = (spanZ a o i (f, t)).toList := spansZ_one
          rcases hsp : spanZ a o i (f, t) with _ | ⟨p, q⟩
          · have HSp := Lib.hid (fun w => mspan_no f t a o i _ _ w rfl rfl (spanZ_none hsp))
            rw [hsp] at hone
            have HOne := Lib.hid (fun (w' : World) u (h : QR w' u [(f, t)]) => (xall_any u _ a o i [] w' hone h (by simp)).mono fun _ _ (⟨v, h1, h2, h3⟩ : RowS w' [] _ _) => (⟨v, h1, h2, OQ.rq h3⟩ : ∃ v, _ = Ending.returned v ∧ _ ∧ QR _ v []))
            clear hsp hone
            go_upto_region 8 with fail
            go_cut [6, 7] (fun v6 v7 wx => ∃ b6, v6 = .pointer (some ⟨b6, 0, none⟩) ∧ v7 = .bool false ∧ AnyLater wr wx ∧ wx.heap[b6]? = some (.cells #[.int .i64 0, .int .i64 0] 33))
            case first =>
              go_region_with (go_at_call 19; refine (HSp.out _).mono ?_; rintro e w3 ⟨rfl, b_w3⟩; try (have s9 := any_own b_w3 (show (wr.drew.alloc (.cells #[.int .i64 0, .int .i64 0] 33)).heap[wr.heap.size]? = _ from heap_new (by simp)); have r9 := own_row s9; have f9 := own_free s9; have l9 := own_lt s9))
              all_goals
                go_wp2_with fail
                go_meet
                case rel => first | exact ⟨_, rfl, rfl, ((AnyLater.refl wr).drew.trans b_w3).alloc _, heap_new rfl⟩ | exact ⟨_, rfl, rfl, ((((AnyLater.refl wr).alloc _).drew.trans b_w3).setCell (p := ⟨wr.heap.size, 0, none⟩) (Nat.le_refl _) _).setCell (p := ⟨wr.heap.size, 1, none⟩) (Nat.le_refl _) _, heap_at (heap_at s9 rfl) rfl⟩
            case rest =>
              obtain ⟨b6, rfl, rfl, b_wc, s1_wc⟩ := hcut
              have a_wc := a_wr.trans b_wc
              have s0_wc := any_own b_wc s0_wr
              have c0_wc := cell_on b_wc c0
              have c1_wc := cell_on b_wc c1
              go_wp2_with fail
              apply Wild.wp_region_free (7) [⟨4, 43, undef, true, fun u w => QR w u [(f, t)]⟩, ⟨6, 45, undef, true, fun u w => QR w u []⟩] [⟨4, 43, fun u w => QR w u [(f, t)]⟩, ⟨6, 45, fun u w => QR w u []⟩] rfl (by kernel_rfl) (by kernel_rfl) (by kernel_rfl) (by simp) (by kernel_rfl)
              case hstab =>
                intro c hc
                simp only [List.mem_cons, List.not_mem_nil, or_false] at hc
                rcases hc with rfl | rfl
                · intro v x y hxy hv; exact (fun h k => QR.later k h) hxy hv
                · intro v x y hxy hv; exact (fun h k => QR.later k h) hxy hv
              case hfix =>
                intro c hc
                simp only [List.mem_cons, List.not_mem_nil, or_false] at hc
                rcases hc with rfl | rfl
                · exact .inl rfl
                · exact .inl rfl
              case hlex =>
                intro U hU
                have q0 := own_row (any_own hU s0_wc)
                have q1 := own_row (any_own hU s1_wc)
                have q_c0_wc := cell_on hU c0_wc
                have q_c1_wc := cell_on hU c1_wc
                simp only [List.map_cons, List.map_nil, CA.act, actFrom, actOp, List.lookup, Nat.reduceBEq, Nat.reduceLeDiff, Nat.reduceAdd, if_false, if_true]
                repeat (go_big_quiet_step (fail))
                exact wpQuiet_nil rfl
              case hstep =>
                intro j hj o ho
                have hj2 : j = 0 ∨ j = 1 := by simp at hj; omega
                rcases hj2 with rfl | rfl
                · cases ho
                  refine ⟨rfl, fun g x hx hp => ?_⟩
                  clear hp
                  simp only [fillAll, Act.put, List.setIfInBounds_toArray, List.set_cons_zero, List.set_cons_succ]
                  refine Wild.free_make (v := .slice (some ⟨x.heap.size, 0, none⟩) 1 1) (w' := x.alloc (.cells #[.int .i64 f, .int .i64 t] 33)) (by simp [go_sem, execOp]) ((AnyLater.refl x).alloc _) (OQ.rq (OQ.one (B := 0) (r := (f, t)) (Nat.zero_le _) (heap_new rfl)))
                · cases ho
                  refine ⟨rfl, fun g x hx hp => ?_⟩
                  have p43 : (fun u w => QR w u [(f, t)]) (g 4) x := hp _ (List.mem_of_getElem? (i := 0) rfl) (List.contains_iff_mem.1 (by kernel_rfl))
                  clear hp
                  simp only [fillAll, Act.put, List.setIfInBounds_toArray, List.set_cons_zero, List.set_cons_succ]
                  refine chain_go ?_ (Wild.free_tells (HOne.out x _ p43))
                  simp [go_sem, execOp]
              case htail =>
                intro g u hst hne
                have b_w5 : AnyLater wc (later u) := ⟨u, rfl⟩
                generalize later u = w5 at *
                clear u hne
                obtain ⟨p43_w5, -⟩ := hst _ (List.mem_of_getElem? (i := 0) rfl)
                (try dsimp only at p43_w5)
                obtain ⟨p45_w5, -⟩ := hst _ (List.mem_of_getElem? (i := 1) rfl)
                (try dsimp only at p45_w5)
                clear hst
                simp only [fillAll, Act.put, List.setIfInBounds_toArray, List.set_cons_zero, List.set_cons_succ, List.drop_succ_cons, List.drop_zero, List.drop_nil]
                generalize g 4 = v43 at *
                generalize g 6 = v45 at *
                have z_w5 := b_w5.below.size
                have a_w5 := a_wc.trans b_w5
                have s0_w5 := any_own b_w5 s0_wc
                have s1_w5 := any_own b_w5 s1_wc
                have r0_w5 := own_row s0_w5
                have f0_w5 := own_free s0_w5
                have l0_w5 := own_lt s0_w5
                have r1_w5 := own_row s1_w5
                have f1_w5 := own_free s1_w5
                have l1_w5 := own_lt s1_w5
                (try clear r0_wc); (try clear f0_wc)
                (try clear r1_wc); (try clear f1_wc)
                have c0_wc_w5 := cell_on b_w5 c0_wc
                have c1_wc_w5 := cell_on b_w5 c1_wc
                obtain ⟨A5, c5, rfl, -⟩ := p45_w5.form
                simp only [List.length_nil]
                go_wp2_with fail
                go_quiet (fail)
                go_wp2_with fail
                go_roundg (n - (j + 1))
                case measure => omega
                case rel => exact ⟨j + 1, rfl, hlt, by go_num, (HB.out.trans (b_wc.trans b_w5)).drewN _⟩
          · obtain ⟨e1, e2, e3⟩ := spanZ_some hsp
            have HSp := Lib.hid (fun w => mspan_yes f t a o i p q w e1 e2 e3)
            rw [hsp] at hone
            have HOne := Lib.hid (fun (w' : World) u (h : QR w' u [(f, t)]) => (xall_any u _ a o i [(p, q)] w' hone h (by simp)).mono fun _ _ (⟨v, h1, h2, h3⟩ : RowS w' [(p, q)] _ _) => (⟨v, h1, h2, OQ.rq h3⟩ : ∃ v, _ = Ending.returned v ∧ _ ∧ QR _ v [(p, q)]))
            clear hsp hone e1 e2 e3
            go_upto_region 8 with fail
            go_cut [6, 7] (fun v6 v7 wx => ∃ b6, v6 = .pointer (some ⟨b6, 0, none⟩) ∧ v7 = .bool true ∧ AnyLater wr wx ∧ wx.heap[b6]? = some (.cells #[.int .i64 p, .int .i64 q] 33))
            case first =>
              go_region_with (go_at_call 19; refine (HSp.out _).mono ?_; rintro e w3 ⟨rfl, b_w3⟩; try (have s9 := any_own b_w3 (show (wr.drew.alloc (.cells #[.int .i64 0, .int .i64 0] 33)).heap[wr.heap.size]? = _ from heap_new (by simp)); have r9 := own_row s9; have f9 := own_free s9; have l9 := own_lt s9))
              all_goals
                go_wp2_with fail
                go_meet
                case rel => first | exact ⟨_, rfl, rfl, ((AnyLater.refl wr).drew.trans b_w3).alloc _, heap_new rfl⟩ | exact ⟨_, rfl, rfl, ((((AnyLater.refl wr).alloc _).drew.trans b_w3).setCell (p := ⟨wr.heap.size, 0, none⟩) (Nat.le_refl _) _).setCell (p := ⟨wr.heap.size, 1, none⟩) (Nat.le_refl _) _, heap_at (heap_at s9 rfl) rfl⟩
            case rest =>
              obtain ⟨b6, rfl, rfl, b_wc, s1_wc⟩ := hcut
              have a_wc := a_wr.trans b_wc
              have s0_wc := any_own b_wc s0_wr
              have c0_wc := cell_on b_wc c0
              have c1_wc := cell_on b_wc c1
              go_wp2_with fail
              apply Wild.wp_region_free (7) [⟨4, 43, undef, true, fun u w => QR w u [(f, t)]⟩, ⟨6, 45, undef, true, fun u w => QR w u [(p, q)]⟩] [⟨4, 43, fun u w => QR w u [(f, t)]⟩, ⟨6, 45, fun u w => QR w u [(p, q)]⟩] rfl (by kernel_rfl) (by kernel_rfl) (by kernel_rfl) (by simp) (by kernel_rfl)
              case hstab =>
                intro c hc
                simp only [List.mem_cons, List.not_mem_nil, or_false] at hc
                rcases hc with rfl | rfl
                · intro v x y hxy hv; exact (fun h k => QR.later k h) hxy hv
                · intro v x y hxy hv; exact (fun h k => QR.later k h) hxy hv
              case hfix =>
                intro c hc
                simp only [List.mem_cons, List.not_mem_nil, or_false] at hc
                rcases hc with rfl | rfl
                · exact .inl rfl
                · exact .inl rfl
              case hlex =>
                intro U hU
                have q0 := own_row (any_own hU s0_wc)
                have q1 := own_row (any_own hU s1_wc)
                have q_c0_wc := cell_on hU c0_wc
                have q_c1_wc := cell_on hU c1_wc
                simp only [List.map_cons, List.map_nil, CA.act, actFrom, actOp, List.lookup, Nat.reduceBEq, Nat.reduceLeDiff, Nat.reduceAdd, if_false, if_true]
                repeat (go_big_quiet_step (fail))
                exact wpQuiet_nil rfl
              case hstep =>
                intro j hj o ho
                have hj2 : j = 0 ∨ j = 1 := by simp at hj; omega
                rcases hj2 with rfl | rfl
                · cases ho
                  refine ⟨rfl, fun g x hx hp => ?_⟩
                  clear hp
                  simp only [fillAll, Act.put, List.setIfInBounds_toArray, List.set_cons_zero, List.set_cons_succ]
                  refine Wild.free_make (v := .slice (some ⟨x.heap.size, 0, none⟩) 1 1) (w' := x.alloc (.cells #[.int .i64 f, .int .i64 t] 33)) (by simp [go_sem, execOp]) ((AnyLater.refl x).alloc _) (OQ.rq (OQ.one (B := 0) (r := (f, t)) (Nat.zero_le _) (heap_new rfl)))
                · cases ho
                  refine ⟨rfl, fun g x hx hp => ?_⟩
                  have p43 : (fun u w => QR w u [(f, t)]) (g 4) x := hp _ (List.mem_of_getElem? (i := 0) rfl) (List.contains_iff_mem.1 (by kernel_rfl))
                  clear hp
                  simp only [fillAll, Act.put, List.setIfInBounds_toArray, List.set_cons_zero, List.set_cons_succ]
                  refine chain_go ?_ (Wild.free_tells (HOne.out x _ p43))
                  simp [go_sem, execOp]
              case htail =>
                intro g u hst hne
                have b_w5 : AnyLater wc (later u) := ⟨u, rfl⟩
                generalize later u = w5 at *
                clear u hne
                obtain ⟨p43_w5, -⟩ := hst _ (List.mem_of_getElem? (i := 0) rfl)
                (try dsimp only at p43_w5)
                obtain ⟨p45_w5, -⟩ := hst _ (List.mem_of_getElem? (i := 1) rfl)
                (try dsimp only at p45_w5)
                clear hst
                simp only [fillAll, Act.put, List.setIfInBounds_toArray, List.set_cons_zero, List.set_cons_succ, List.drop_succ_cons, List.drop_zero, List.drop_nil]
                generalize g 4 = v43 at *
                generalize g 6 = v45 at *
                have z_w5 := b_w5.below.size
                have a_w5 := a_wc.trans b_w5
                have s0_w5 := any_own b_w5 s0_wc
                have s1_w5 := any_own b_w5 s1_wc
                have r0_w5 := own_row s0_w5
                have f0_w5 := own_free s0_w5
                have l0_w5 := own_lt s0_w5
                have r1_w5 := own_row s1_w5
                have f1_w5 := own_free s1_w5
                have l1_w5 := own_lt s1_w5
                (try clear r0_wc); (try clear f0_wc)
                (try clear r1_wc); (try clear f1_wc)
                have c0_wc_w5 := cell_on b_w5 c0_wc
                have c1_wc_w5 := cell_on b_w5 c1_wc
                obtain ⟨A5, c5, rfl, -⟩ := p45_w5.form
                obtain ⟨b5, off5, rfl, hb5, g0, g1⟩ := p45_w5.at 0 (by simp)
                simp only [List.length_cons, List.length_nil, Nat.zero_mul, Nat.add_zero, Nat.zero_add, List.getElem_cons_zero] at g0 g1 ⊢
                go_wp2_with fail
                go_quiet (fail)
                go_wp2_with fail
                go_roundg (n - (j + 1))
                case measure => omega
                case rel => exact ⟨j + 1, rfl, hlt, by go_num, (HB.out.trans (b_wc.trans b_w5)).drewN _⟩
        · obtain rfl : j = n := by omega
          have d9 : decide ((j : Int) < (j : Int)) = false := by simp
          go_wp2_with fail
          refine (mlives_any _).mono ?_
          rintro e w6 ⟨rfl, b_w6⟩
          have z_w6 := b_w6.below.size
          have a_w6 := a_wr.trans b_w6
          go_wp2_with fail
          go_ret
          exact ⟨rfl, a_w6⟩
/-- MarkSpans of any spans -/
theorem markSpans_any (W : World) (v0 : Value) (z0 : Qs) (a1_0 a1_1 a1_2 : Int) (h0 : QR W v0 z0) : Calls Try.prog 5 #[v0, .agg #[.int .i64 a1_0, .int .i64 a1_1, .int .i64 a1_2]] W fun e W' => e = .returned (.bool true) ∧ AnyLater W W' := by
  by_cases h : z0.length ≤ 40
  · obtain ⟨A, cap, rfl, k⟩ := h0.form
    exact markSpans_cut A _ cap W z0 _ cap a1_0 a1_1 a1_2 A rfl h h0 (.inl ⟨h, rfl, rfl, rfl⟩)
  · obtain ⟨A2, cap2, k1, k2⟩ := h0.uptoQ pairSpan 40 (by omega)
    obtain ⟨A, cap, rfl, k⟩ := h0.form
    have hl : (z0.take 40).length = 40 := by rw [List.length_take]; omega
    exact markSpans_cut A _ cap W (z0.take 40) 40 cap2 a1_0 a1_1 a1_2 A2 hl (Nat.le_refl _) k1 (.inr ⟨by omega, k2⟩)
end Go.Proofs.Ytibeoohjdinceaa
