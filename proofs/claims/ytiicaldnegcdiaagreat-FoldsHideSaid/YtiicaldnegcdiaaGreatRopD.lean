/- rope: where a piece begins and ends; parts turned, evened: by contract. -/
import Derived.Test.YtiicaldnegcdiaaGreatRopC
namespace Go.Proofs.YtiicaldnegcdiaaGreat
set_option linter.unusedSimpArgs false
set_option linter.unusedVariables false
set_option linter.unusedSectionVars false
open Go.RowKit

set_option maxRecDepth 100000 in
theorem ends_any (l r : Tr) (p : Pc) (v : Value) (w : World) (h : IsT w (.node l p r) v) (hn : (Tr.node l p r).len ≤ 90000) :
    Calls Tryz.prog 65 #[v] w fun e w' => e = .returned (.tuple #[.int .i64 (l.len : Int), .int .i64 ((l.len + p.b.length : Nat) : Int)]) ∧ AnyLater w w' := by
  obtain ⟨k, lv, rv, bv, fv, rfl, hk, hl, hr, hp⟩ := h
  have HL := Lib.hid (fun (w' : World) (a : AnyLater w w') => noted_any l lv w' (hl.later a))
  obtain ⟨A, cap, rfl, hA⟩ := hp.1.form
  have s0_w : w.heap[k]? = some (.cells (nodeC lv rv (.slice A p.b.length cap) fv p (.node l p r)) 105) := hk
  have r0 := own_row s0_w
  have HS := Lib.hid s0_w
  simp only [Tr.len] at hn
  unfold nodeC at r0 HS
  unfold sumV at HL
  have f0 := fld0
  clear hl hr hp hk s0_w
  generalize p.b.length = n at *
  generalize l.len = a1 at *
  go_enter Tryz.func65, Tryz.ntmps65
  go_wp2_with fail
  refine (HL.out _ (AnyLater.refl w)).mono ?_
  rintro e w2 ⟨rfl, b2⟩
  have HB := Lib.hid b2
  have r1 := own_row (any_own b2 HS.out)
  clear r0 b2
  go_wp2_with fail
  go_quiet (fail)
  go_wp2_with fail
  refine bodyPost_ret (v := .tuple #[.int .i64 (a1 : Int), .int .i64 ((a1 + n : Nat) : Int)]) (by simp [results, Tryz.results65, go_sem]) rfl ⟨rfl, ?_⟩
  exact HB.out.drewN _
set_option maxRecDepth 100000 in
set_option maxHeartbeats 1600000 in
theorem turnRight_flat (a i r : Tr) (q p : Pc) (v rv bv fv : Value) (w : World) (h : IsT w (.node a q i) v) (hr : IsT w r rv) (hp : RIsP w bv fv p) (hF : (Tr.node a q i).Fair) (fp : p.Fair) (fr : r.Fair) (hn : (Tr.node a q i).len + p.b.length + r.len ≤ 90000) (hlev : i.lev ≤ a.lev) :
    Calls Tryz.prog 80 #[v, pcV bv fv p, rv] w (Ans (isT (.node a q (.node i p r))) w) := by
  obtain ⟨fa, fq, fi⟩ := hF
  have hn2 : a.len + q.b.length + i.len + p.b.length + r.len ≤ 90000 := hn
  obtain ⟨k, lv, iv, qv, gv, rfl, hk, ha, hi, hq⟩ := h
  have HNa := Lib.hid (fun (w' : World) (b : AnyLater w w') => noted_any a lv w' (ha.later b))
  have HNi := Lib.hid (fun (w' : World) (b : AnyLater w w') => noted_any i iv w' (hi.later b))
  have HT1 := Lib.hid (fun (w' : World) (b : AnyLater w w') => tie_any i r p iv rv bv fv w' (hi.later b) (hr.later b) (hp.later b) fi fr (by unfold Tr.len; omega))
  have HT2 := Lib.hid (fun (w' : World) (u : Value) (b : AnyLater w w') (hu : isT (.node i p r) u w') => tie_any a (.node i p r) q lv u qv gv w' (ha.later b) hu (hq.later b) fa ⟨fi, fp, fr⟩ (by simp only [Tr.len]; omega))
  have HK := Lib.hid hk
  obtain ⟨A, cap, rfl, -⟩ := hp.1.form
  obtain ⟨A2, cap2, rfl, -⟩ := hp.2.form
  obtain ⟨A3, cap3, rfl, -⟩ := hq.1.form
  obtain ⟨A4, cap4, rfl, -⟩ := hq.2.form
  unfold nodeC at HK
  unfold sumV at HNa HNi
  unfold pcV at HT1 HT2 ⊢
  have d1 : ((i.lev : Nat) : Int) ≤ (a.lev : Int) := by omega
  have f3 := fld3
  clear ha hi hq hr hp hk hn hn2 hlev
  generalize a.lev = x1 at *
  generalize i.lev = x2 at *
  generalize p.b.length = n at *
  generalize p.fs.length = m at *
  generalize p.base = b0 at *
  generalize q.b.length = n2 at *
  generalize q.fs.length = m2 at *
  generalize q.base = b1 at *
  go_enter Tryz.func80, Tryz.ntmps80
  go_wp2_with fail
  first | refine settle_wp (fun wS => AnyLater w wS ∧ wS.heap[w.heap.size]? = some (.cells #[.slice A n cap, .slice A2 m cap2, .int .i64 b0] 94)) ?_ ?_ | refine settle_calls (fun wS => AnyLater w wS ∧ wS.heap[w.heap.size]? = some (.cells #[.slice A n cap, .slice A2 m cap2, .int .i64 b0] 94)) ?_ ?_
  · refine ⟨?_, ?_⟩
    · repeat' (first | with_reducible assumption | with_reducible exact AnyLater.refl _ | with_reducible apply AnyLater.setCell | with_reducible apply AnyLater.later | with_reducible apply AnyLater.drewN | with_reducible apply AnyLater.drew | with_reducible apply AnyLater.alloc | ((try simp only [World.size_alloc, World.size_setCell, World.size_drew]); (try dsimp only); omega))
    · ((repeat (first | with_reducible assumption | ((with_reducible apply heap_new); (try simp only [World.size_alloc, World.size_setCell, World.size_drew, World.heap_drewN]); done) | ((with_reducible apply heap_new); (try simp only [World.size_alloc, World.size_setCell, World.size_drew, World.heap_drewN]); omega) | (with_reducible refine heap_old (by (try simp only [World.size_alloc, World.size_setCell, World.size_drew, World.heap_drewN]); omega) ?_) | (with_reducible refine heap_drew ?_) | (with_reducible refine heap_far (by omega) ?_) | (with_reducible apply heap_at))); all_goals rfl)
  rintro w1 ⟨b_w1, s0_w1⟩
  have a_w1 := b_w1
  have r0_w1 := own_row s0_w1
  have f0_w1 := own_free s0_w1
  have l0_w1 := own_lt s0_w1
  have z_w1 := b_w1.below.size
  have s1_w1 := any_own a_w1 HK.out
  have r1_w1 := own_row s1_w1
  go_quiet (fail)
  go_wp2_with fail
  refine (HNa.out _ (a_w1.drewN _)).mono ?_
  rintro e w2 ⟨rfl, c2⟩
  have b_w2 : AnyLater w1 w2 := ((AnyLater.refl w1).drewN _).trans c2
  have z_w2 := b_w2.below.size
  have a_w2 := a_w1.trans b_w2
  have s0_w2 := any_own b_w2 s0_w1
  have s1_w2 := any_own b_w2 s1_w1
  have r0_w2 := own_row s0_w2
  have f0_w2 := own_free s0_w2
  have l0_w2 := own_lt s0_w2
  have r1_w2 := own_row s1_w2
  have f1_w2 := own_free s1_w2
  have l1_w2 := own_lt s1_w2
  (try clear r0_w1); (try clear f0_w1)
  (try clear r1_w1); (try clear f1_w1)
  clear c2
  go_wp2_with fail
  refine (HNi.out _ a_w2).mono ?_
  rintro e w3 ⟨rfl, b_w3⟩
  have z_w3 := b_w3.below.size
  have a_w3 := a_w2.trans b_w3
  have s0_w3 := any_own b_w3 s0_w2
  have s1_w3 := any_own b_w3 s1_w2
  have r0_w3 := own_row s0_w3
  have f0_w3 := own_free s0_w3
  have l0_w3 := own_lt s0_w3
  have r1_w3 := own_row s1_w3
  have f1_w3 := own_free s1_w3
  have l1_w3 := own_lt s1_w3
  (try clear r0_w2); (try clear f0_w2)
  (try clear r1_w2); (try clear f1_w2)
  go_wp2_with fail
  apply Wild.wp_region_free (10) [⟨8, 32, undef, true, isT (.node i p r)⟩, ⟨9, 33, undef, true, isT (.node a q (.node i p r))⟩] [⟨8, 32, isT (.node i p r)⟩, ⟨9, 33, isT (.node a q (.node i p r))⟩] rfl (by kernel_rfl) (by kernel_rfl) (by kernel_rfl) (by simp) (by kernel_rfl)
  case hstab =>
    intro c hc
    simp only [List.mem_cons, List.not_mem_nil, or_false] at hc
    rcases hc with rfl | rfl
    · intro v x y hxy hv; exact isT_stays hxy hv
    · intro v x y hxy hv; exact isT_stays hxy hv
  case hfix =>
    intro c hc
    simp only [List.mem_cons, List.not_mem_nil, or_false] at hc
    rcases hc with rfl | rfl
    · exact .inl rfl
    · exact .inl rfl
  case hlex =>
    intro U hU
    have q0 := own_row (any_own hU s0_w3)
    have q1 := own_row (any_own hU s1_w3)
    simp only [List.map_cons, List.map_nil, CA.act, actFrom, actOp, List.lookup, Nat.reduceBEq, Nat.reduceLeDiff, Nat.reduceAdd, if_false, if_true]
    repeat (go_big_quiet_step (fail))
    exact wpQuiet_nil rfl
  case hstep =>
    intro j hj o ho
    have hj2 : j = 0 ∨ j = 1 := by simp at hj; omega
    rcases hj2 with rfl | rfl
    · cases ho
      refine ⟨rfl, fun g x hx hp => ?_⟩
      clear hp
      simp only [fillAll, Act.put, List.setIfInBounds_toArray, List.set_cons_zero, List.set_cons_succ]
      refine chain_go ?_ (Wild.free_tells (HT1.out x (a_w3.trans hx)))
      simp [go_sem, execOp]
    · cases ho
      refine ⟨rfl, fun g x hx hp => ?_⟩
      have p32 : (isT (.node i p r)) (g 8) x := hp _ (List.mem_of_getElem? (i := 0) rfl) (List.contains_iff_mem.1 (by kernel_rfl))
      clear hp
      simp only [fillAll, Act.put, List.setIfInBounds_toArray, List.set_cons_zero, List.set_cons_succ]
      refine chain_go ?_ (Wild.free_tells (HT2.out _ _ (a_w3.trans hx) p32))
      simp [go_sem, execOp]
  case htail =>
    intro g u hst hne
    have b_w4 : AnyLater w3 (later u) := ⟨u, rfl⟩
    generalize later u = w4 at *
    clear u hne
    obtain ⟨p32_w4, -⟩ := hst _ (List.mem_of_getElem? (i := 0) rfl)
    (try dsimp only at p32_w4)
    obtain ⟨p33_w4, -⟩ := hst _ (List.mem_of_getElem? (i := 1) rfl)
    (try dsimp only at p33_w4)
    clear hst
    simp only [fillAll, Act.put, List.setIfInBounds_toArray, List.set_cons_zero, List.set_cons_succ, List.drop_succ_cons, List.drop_zero, List.drop_nil]
    generalize g 8 = v32 at *
    generalize g 9 = v33 at *
    have z_w4 := b_w4.below.size
    have a_w4 := a_w3.trans b_w4
    have s0_w4 := any_own b_w4 s0_w3
    have s1_w4 := any_own b_w4 s1_w3
    have r0_w4 := own_row s0_w4
    have f0_w4 := own_free s0_w4
    have l0_w4 := own_lt s0_w4
    have r1_w4 := own_row s1_w4
    have f1_w4 := own_free s1_w4
    have l1_w4 := own_lt s1_w4
    (try clear r0_w3); (try clear f0_w3)
    (try clear r1_w3); (try clear f1_w3)
    go_wp2_with fail
    go_ret
    exact ⟨_, rfl, a_w4, p33_w4⟩
set_option maxRecDepth 100000 in
set_option maxHeartbeats 1600000 in
theorem turnRight_steep (a b c r : Tr) (q s p : Pc) (v rv bv fv : Value) (w : World) (h : IsT w (.node a q (.node b s c)) v) (hr : IsT w r rv) (hp : RIsP w bv fv p) (hF : (Tr.node a q (.node b s c)).Fair) (fp : p.Fair) (fr : r.Fair) (hn : (Tr.node a q (.node b s c)).len + p.b.length + r.len ≤ 90000) (hlev : ¬ (Tr.node b s c).lev ≤ a.lev) :
    Calls Tryz.prog 80 #[v, pcV bv fv p, rv] w (Ans (isT (.node (.node a q b) s (.node c p r))) w) := by
  obtain ⟨fa, fq, fb, fs, fc⟩ := hF
  have hn2 : a.len + q.b.length + (b.len + s.b.length + c.len) + p.b.length + r.len ≤ 90000 := hn
  obtain ⟨k, lv, iv, qv, gv, rfl, hk, ha, hi, hq⟩ := h
  have HNa := Lib.hid (fun (w' : World) (b : AnyLater w w') => noted_any a lv w' (ha.later b))
  have HNi := Lib.hid (fun (w' : World) (e : AnyLater w w') => noted_any (.node b s c) iv w' (hi.later e))
  obtain ⟨k2, xv, yv, sv, tv, rfl, hk2, hb, hc, hs⟩ := hi
  have HT1 := Lib.hid (fun (w' : World) (e : AnyLater w w') => tie_any a b q lv xv qv gv w' (ha.later e) (hb.later e) (hq.later e) fa fb (by simp only [Tr.len]; omega))
  have HT2 := Lib.hid (fun (w' : World) (e : AnyLater w w') => tie_any c r p yv rv bv fv w' (hc.later e) (hr.later e) (hp.later e) fc fr (by simp only [Tr.len]; omega))
  have HT3 := Lib.hid (fun (w' : World) (u u2 : Value) (e : AnyLater w w') (hu : isT (.node a q b) u w') (hu2 : isT (.node c p r) u2 w') => tie_any (.node a q b) (.node c p r) s u u2 sv tv w' hu hu2 (hs.later e) ⟨fa, fq, fb⟩ ⟨fc, fp, fr⟩ (by simp only [Tr.len]; omega))
  have HK := Lib.hid (And.intro hk hk2)
  obtain ⟨A, cap, rfl, -⟩ := hp.1.form
  obtain ⟨A2, cap2, rfl, -⟩ := hp.2.form
  obtain ⟨A3, cap3, rfl, -⟩ := hq.1.form
  obtain ⟨A4, cap4, rfl, -⟩ := hq.2.form
  obtain ⟨A5, cap5, rfl, -⟩ := hs.1.form
  obtain ⟨A6, cap6, rfl, -⟩ := hs.2.form
  unfold nodeC at HK
  unfold sumV at HNa HNi
  unfold pcV at HT1 HT2 HT3 ⊢
  have d1 : decide ((Tr.node b s c).lev ≤ a.lev) = false := decide_eq_false (by omega)
  have f3 := fld3
  clear ha hq hr hp hk hn hn2 hlev hb hc hs hk2
  generalize a.lev = x1 at *
  generalize (Tr.node b s c).lev = x2 at *
  generalize p.b.length = n at *
  generalize p.fs.length = m at *
  generalize p.base = b0 at *
  generalize q.b.length = n2 at *
  generalize q.fs.length = m2 at *
  generalize q.base = b1 at *
  generalize s.b.length = n3 at *
  generalize s.fs.length = m3 at *
  generalize s.base = b3 at *
  go_enter Tryz.func80, Tryz.ntmps80
  go_wp2_with fail
  first | refine settle_wp (fun wS => AnyLater w wS ∧ wS.heap[w.heap.size]? = some (.cells #[.slice A n cap, .slice A2 m cap2, .int .i64 b0] 94)) ?_ ?_ | refine settle_calls (fun wS => AnyLater w wS ∧ wS.heap[w.heap.size]? = some (.cells #[.slice A n cap, .slice A2 m cap2, .int .i64 b0] 94)) ?_ ?_
  · refine ⟨?_, ?_⟩
    · repeat' (first | with_reducible assumption | with_reducible exact AnyLater.refl _ | with_reducible apply AnyLater.setCell | with_reducible apply AnyLater.later | with_reducible apply AnyLater.drewN | with_reducible apply AnyLater.drew | with_reducible apply AnyLater.alloc | ((try simp only [World.size_alloc, World.size_setCell, World.size_drew]); (try dsimp only); omega))
    · ((repeat (first | with_reducible assumption | ((with_reducible apply heap_new); (try simp only [World.size_alloc, World.size_setCell, World.size_drew, World.heap_drewN]); done) | ((with_reducible apply heap_new); (try simp only [World.size_alloc, World.size_setCell, World.size_drew, World.heap_drewN]); omega) | (with_reducible refine heap_old (by (try simp only [World.size_alloc, World.size_setCell, World.size_drew, World.heap_drewN]); omega) ?_) | (with_reducible refine heap_drew ?_) | (with_reducible refine heap_far (by omega) ?_) | (with_reducible apply heap_at))); all_goals rfl)
  rintro w1 ⟨b_w1, s0_w1⟩
  have a_w1 := b_w1
  have r0_w1 := own_row s0_w1
  have f0_w1 := own_free s0_w1
  have l0_w1 := own_lt s0_w1
  have z_w1 := b_w1.below.size
  have s1_w1 := any_own a_w1 HK.out.1
  have s2_w1 := any_own a_w1 HK.out.2
  have r1_w1 := own_row s1_w1
  go_quiet (fail)
  go_wp2_with fail
  refine (HNa.out _ (a_w1.drewN _)).mono ?_
  rintro e w2 ⟨rfl, c2⟩
  have b_w2 : AnyLater w1 w2 := ((AnyLater.refl w1).drewN _).trans c2
  have z_w2 := b_w2.below.size
  have a_w2 := a_w1.trans b_w2
  have s0_w2 := any_own b_w2 s0_w1
  have s1_w2 := any_own b_w2 s1_w1
  have s2_w2 := any_own b_w2 s2_w1
  have r0_w2 := own_row s0_w2
  have f0_w2 := own_free s0_w2
  have l0_w2 := own_lt s0_w2
  have r1_w2 := own_row s1_w2
  have f1_w2 := own_free s1_w2
  have l1_w2 := own_lt s1_w2
  have r2_w2 := own_row s2_w2
  have f2_w2 := own_free s2_w2
  have l2_w2 := own_lt s2_w2
  (try clear r0_w1); (try clear f0_w1)
  (try clear r1_w1); (try clear f1_w1)
  (try clear r2_w1); (try clear f2_w1)
  clear c2
  go_wp2_with fail
  refine (HNi.out _ a_w2).mono ?_
  rintro e w3 ⟨rfl, b_w3⟩
  have z_w3 := b_w3.below.size
  have a_w3 := a_w2.trans b_w3
  have s0_w3 := any_own b_w3 s0_w2
  have s1_w3 := any_own b_w3 s1_w2
  have s2_w3 := any_own b_w3 s2_w2
  have r0_w3 := own_row s0_w3
  have f0_w3 := own_free s0_w3
  have l0_w3 := own_lt s0_w3
  have r1_w3 := own_row s1_w3
  have f1_w3 := own_free s1_w3
  have l1_w3 := own_lt s1_w3
  have r2_w3 := own_row s2_w3
  have f2_w3 := own_free s2_w3
  have l2_w3 := own_lt s2_w3
  (try clear r0_w2); (try clear f0_w2)
  (try clear r1_w2); (try clear f1_w2)
  (try clear r2_w2); (try clear f2_w2)
  go_wp2_with fail
  apply Wild.wp_region_free (22) [⟨9, 43, undef, true, isT (.node a q b)⟩, ⟨20, 54, undef, true, isT (.node c p r)⟩, ⟨21, 55, undef, true, isT (.node (.node a q b) s (.node c p r))⟩] [⟨9, 43, isT (.node a q b)⟩, ⟨20, 54, isT (.node c p r)⟩, ⟨21, 55, isT (.node (.node a q b) s (.node c p r))⟩] rfl (by kernel_rfl) (by kernel_rfl) (by kernel_rfl) (by simp) (by kernel_rfl)
  case hstab =>
    intro c hc
    simp only [List.mem_cons, List.not_mem_nil, or_false] at hc
    rcases hc with rfl | rfl | rfl
    · intro v x y hxy hv; exact isT_stays hxy hv
    · intro v x y hxy hv; exact isT_stays hxy hv
    · intro v x y hxy hv; exact isT_stays hxy hv
  case hfix =>
    intro c hc
    simp only [List.mem_cons, List.not_mem_nil, or_false] at hc
    rcases hc with rfl | rfl | rfl
    · exact .inl rfl
    · exact .inl rfl
    · exact .inl rfl
  case hlex =>
    intro U hU
    have q0 := own_row (any_own hU s0_w3)
    have q1 := own_row (any_own hU s1_w3)
    have q2 := own_row (any_own hU s2_w3)
    simp only [List.map_cons, List.map_nil, CA.act, actFrom, actOp, List.lookup, Nat.reduceBEq, Nat.reduceLeDiff, Nat.reduceAdd, if_false, if_true]
    repeat (go_big_quiet_step (fail))
    exact wpQuiet_nil rfl
  case hstep =>
    intro j hj o ho
    have hj2 : j = 0 ∨ j = 1 ∨ j = 2 := by simp at hj; omega
    rcases hj2 with rfl | rfl | rfl
    · cases ho
      refine ⟨rfl, fun g x hx hp => ?_⟩
      clear hp
      simp only [fillAll, Act.put, List.setIfInBounds_toArray, List.set_cons_zero, List.set_cons_succ]
      refine chain_go ?_ (Wild.free_tells (HT1.out x (a_w3.trans hx)))
      simp [go_sem, execOp]
    · cases ho
      refine ⟨rfl, fun g x hx hp => ?_⟩
      clear hp
      simp only [fillAll, Act.put, List.setIfInBounds_toArray, List.set_cons_zero, List.set_cons_succ]
      refine chain_go ?_ (Wild.free_tells (HT2.out x (a_w3.trans hx)))
      simp [go_sem, execOp]
    · cases ho
      refine ⟨rfl, fun g x hx hp => ?_⟩
      have p43 : (isT (.node a q b)) (g 9) x := hp _ (List.mem_of_getElem? (i := 0) rfl) (List.contains_iff_mem.1 (by kernel_rfl))
      have p54 : (isT (.node c p r)) (g 20) x := hp _ (List.mem_of_getElem? (i := 1) rfl) (List.contains_iff_mem.1 (by kernel_rfl))
      clear hp
      simp only [fillAll, Act.put, List.setIfInBounds_toArray, List.set_cons_zero, List.set_cons_succ]
      refine chain_go ?_ (Wild.free_tells (HT3.out _ _ _ (a_w3.trans hx) p43 p54))
      simp [go_sem, execOp]
  case htail =>
    intro g u hst hne
    have b_w4 : AnyLater w3 (later u) := ⟨u, rfl⟩
    generalize later u = w4 at *
    clear u hne
    obtain ⟨p43_w4, -⟩ := hst _ (List.mem_of_getElem? (i := 0) rfl)
    (try dsimp only at p43_w4)
    obtain ⟨p54_w4, -⟩ := hst _ (List.mem_of_getElem? (i := 1) rfl)
    (try dsimp only at p54_w4)
    obtain ⟨p55_w4, -⟩ := hst _ (List.mem_of_getElem? (i := 2) rfl)
    (try dsimp only at p55_w4)
    clear hst
    simp only [fillAll, Act.put, List.setIfInBounds_toArray, List.set_cons_zero, List.set_cons_succ, List.drop_succ_cons, List.drop_zero, List.drop_nil]
    generalize g 9 = v43 at *
    generalize g 20 = v54 at *
    generalize g 21 = v55 at *
    have z_w4 := b_w4.below.size
    have a_w4 := a_w3.trans b_w4
    have s0_w4 := any_own b_w4 s0_w3
    have s1_w4 := any_own b_w4 s1_w3
    have s2_w4 := any_own b_w4 s2_w3
    have r0_w4 := own_row s0_w4
    have f0_w4 := own_free s0_w4
    have l0_w4 := own_lt s0_w4
    have r1_w4 := own_row s1_w4
    have f1_w4 := own_free s1_w4
    have l1_w4 := own_lt s1_w4
    have r2_w4 := own_row s2_w4
    have f2_w4 := own_free s2_w4
    have l2_w4 := own_lt s2_w4
    (try clear r0_w3); (try clear f0_w3)
    (try clear r1_w3); (try clear f1_w3)
    (try clear r2_w3); (try clear f2_w3)
    go_wp2_with fail
    go_ret
    exact ⟨_, rfl, a_w4, p55_w4⟩
/-- a piece between two parts, of which the left one is too deep -/
theorem turnRight_any (a i r : Tr) (q p : Pc) (v rv bv fv : Value) (w : World) (t : Tr) (ht : Tr.turnR (.node a q i) p r = t) (h : IsT w (.node a q i) v) (hr : IsT w r rv) (hp : RIsP w bv fv p) (hF : (Tr.node a q i).Fair) (fp : p.Fair) (fr : r.Fair) (hn : (Tr.node a q i).len + p.b.length + r.len ≤ 90000) :
    Calls Tryz.prog 80 #[v, pcV bv fv p, rv] w (Ans (isT t) w) := by
  subst ht
  cases i with
  | nil => exact turnRight_flat a .nil r q p v rv bv fv w h hr hp hF fp fr hn (Nat.zero_le _)
  | node b s c =>
    rw [Tr.turnR_node]
    split
    · rename_i hc
      exact turnRight_flat a _ r q p v rv bv fv w h hr hp hF fp fr hn hc
    · rename_i hc
      exact turnRight_steep a b c r q s p v rv bv fv w h hr hp hF fp fr hn hc
set_option maxRecDepth 100000 in
set_option maxHeartbeats 1600000 in
theorem turnLeft_flat (l i o : Tr) (q p : Pc) (v lv bv fv : Value) (w : World) (h : IsT w (.node i q o) v) (hl : IsT w l lv) (hp : RIsP w bv fv p) (hF : (Tr.node i q o).Fair) (fp : p.Fair) (fl : l.Fair) (hn : l.len + p.b.length + (Tr.node i q o).len ≤ 90000) (hlev : i.lev ≤ o.lev) :
    Calls Tryz.prog 81 #[lv, pcV bv fv p, v] w (Ans (isT (.node (.node l p i) q o)) w) := by
  obtain ⟨fi, fq, fo⟩ := hF
  have hn2 : l.len + p.b.length + (i.len + q.b.length + o.len) ≤ 90000 := hn
  obtain ⟨k, iv, ov, qv, gv, rfl, hk, hi, ho, hq⟩ := h
  have HNo := Lib.hid (fun (w' : World) (b : AnyLater w w') => noted_any o ov w' (ho.later b))
  have HNi := Lib.hid (fun (w' : World) (b : AnyLater w w') => noted_any i iv w' (hi.later b))
  have HT1 := Lib.hid (fun (w' : World) (b : AnyLater w w') => tie_any l i p lv iv bv fv w' (hl.later b) (hi.later b) (hp.later b) fl fi (by unfold Tr.len; omega))
  have HT2 := Lib.hid (fun (w' : World) (u : Value) (b : AnyLater w w') (hu : isT (.node l p i) u w') => tie_any (.node l p i) o q u ov qv gv w' hu (ho.later b) (hq.later b) ⟨fl, fp, fi⟩ fo (by simp only [Tr.len]; omega))
  have HK := Lib.hid hk
  obtain ⟨A, cap, rfl, -⟩ := hp.1.form
  obtain ⟨A2, cap2, rfl, -⟩ := hp.2.form
  obtain ⟨A3, cap3, rfl, -⟩ := hq.1.form
  obtain ⟨A4, cap4, rfl, -⟩ := hq.2.form
  unfold nodeC at HK
  unfold sumV at HNo HNi
  unfold pcV at HT1 HT2 ⊢
  have d1 : ((i.lev : Nat) : Int) ≤ (o.lev : Int) := by omega
  have f3 := fld3
  clear hl hi hq ho hp hk hn hn2 hlev
  generalize o.lev = x1 at *
  generalize i.lev = x2 at *
  generalize p.b.length = n at *
  generalize p.fs.length = m at *
  generalize p.base = b0 at *
  generalize q.b.length = n2 at *
  generalize q.fs.length = m2 at *
  generalize q.base = b1 at *
  go_enter Tryz.func81, Tryz.ntmps81
  go_wp2_with fail
  first | refine settle_wp (fun wS => AnyLater w wS ∧ wS.heap[w.heap.size]? = some (.cells #[.slice A n cap, .slice A2 m cap2, .int .i64 b0] 94)) ?_ ?_ | refine settle_calls (fun wS => AnyLater w wS ∧ wS.heap[w.heap.size]? = some (.cells #[.slice A n cap, .slice A2 m cap2, .int .i64 b0] 94)) ?_ ?_
  · refine ⟨?_, ?_⟩
    · repeat' (first | with_reducible assumption | with_reducible exact AnyLater.refl _ | with_reducible apply AnyLater.setCell | with_reducible apply AnyLater.later | with_reducible apply AnyLater.drewN | with_reducible apply AnyLater.drew | with_reducible apply AnyLater.alloc | ((try simp only [World.size_alloc, World.size_setCell, World.size_drew]); (try dsimp only); omega))
    · ((repeat (first | with_reducible assumption | ((with_reducible apply heap_new); (try simp only [World.size_alloc, World.size_setCell, World.size_drew, World.heap_drewN]); done) | ((with_reducible apply heap_new); (try simp only [World.size_alloc, World.size_setCell, World.size_drew, World.heap_drewN]); omega) | (with_reducible refine heap_old (by (try simp only [World.size_alloc, World.size_setCell, World.size_drew, World.heap_drewN]); omega) ?_) | (with_reducible refine heap_drew ?_) | (with_reducible refine heap_far (by omega) ?_) | (with_reducible apply heap_at))); all_goals rfl)
  rintro w1 ⟨b_w1, s0_w1⟩
  have a_w1 := b_w1
  have r0_w1 := own_row s0_w1
  have f0_w1 := own_free s0_w1
  have l0_w1 := own_lt s0_w1
  have z_w1 := b_w1.below.size
  have s1_w1 := any_own a_w1 HK.out
  have r1_w1 := own_row s1_w1
  go_quiet (fail)
  go_wp2_with fail
  refine (HNo.out _ (a_w1.drewN _)).mono ?_
  rintro e w2 ⟨rfl, c2⟩
  have b_w2 : AnyLater w1 w2 := ((AnyLater.refl w1).drewN _).trans c2
  have z_w2 := b_w2.below.size
  have a_w2 := a_w1.trans b_w2
  have s0_w2 := any_own b_w2 s0_w1
  have s1_w2 := any_own b_w2 s1_w1
  have r0_w2 := own_row s0_w2
  have f0_w2 := own_free s0_w2
  have l0_w2 := own_lt s0_w2
  have r1_w2 := own_row s1_w2
  have f1_w2 := own_free s1_w2
  have l1_w2 := own_lt s1_w2
  (try clear r0_w1); (try clear f0_w1)
  (try clear r1_w1); (try clear f1_w1)
  clear c2
  go_wp2_with fail
  refine (HNi.out _ a_w2).mono ?_
  rintro e w3 ⟨rfl, b_w3⟩
  have z_w3 := b_w3.below.size
  have a_w3 := a_w2.trans b_w3
  have s0_w3 := any_own b_w3 s0_w2
  have s1_w3 := any_own b_w3 s1_w2
  have r0_w3 := own_row s0_w3
  have f0_w3 := own_free s0_w3
  have l0_w3 := own_lt s0_w3
  have r1_w3 := own_row s1_w3
  have f1_w3 := own_free s1_w3
  have l1_w3 := own_lt s1_w3
  (try clear r0_w2); (try clear f0_w2)
  (try clear r1_w2); (try clear f1_w2)
  go_wp2_with fail
  apply Wild.wp_region_free (10) [⟨3, 27, undef, true, isT (.node l p i)⟩, ⟨9, 33, undef, true, isT (.node (.node l p i) q o)⟩] [⟨3, 27, isT (.node l p i)⟩, ⟨9, 33, isT (.node (.node l p i) q o)⟩] rfl (by kernel_rfl) (by kernel_rfl) (by kernel_rfl) (by simp) (by kernel_rfl)
  case hstab =>
    intro c hc
    simp only [List.mem_cons, List.not_mem_nil, or_false] at hc
    rcases hc with rfl | rfl
    · intro v x y hxy hv; exact isT_stays hxy hv
    · intro v x y hxy hv; exact isT_stays hxy hv
  case hfix =>
    intro c hc
    simp only [List.mem_cons, List.not_mem_nil, or_false] at hc
    rcases hc with rfl | rfl
    · exact .inl rfl
    · exact .inl rfl
  case hlex =>
    intro U hU
    have q0 := own_row (any_own hU s0_w3)
    have q1 := own_row (any_own hU s1_w3)
    simp only [List.map_cons, List.map_nil, CA.act, actFrom, actOp, List.lookup, Nat.reduceBEq, Nat.reduceLeDiff, Nat.reduceAdd, if_false, if_true]
    repeat (go_big_quiet_step (fail))
    exact wpQuiet_nil rfl
  case hstep =>
    intro j hj o ho
    have hj2 : j = 0 ∨ j = 1 := by simp at hj; omega
    rcases hj2 with rfl | rfl
    · cases ho
      refine ⟨rfl, fun g x hx hp => ?_⟩
      clear hp
      simp only [fillAll, Act.put, List.setIfInBounds_toArray, List.set_cons_zero, List.set_cons_succ]
      refine chain_go ?_ (Wild.free_tells (HT1.out x (a_w3.trans hx)))
      simp [go_sem, execOp]
    · cases ho
      refine ⟨rfl, fun g x hx hp => ?_⟩
      have p27 : (isT (.node l p i)) (g 3) x := hp _ (List.mem_of_getElem? (i := 0) rfl) (List.contains_iff_mem.1 (by kernel_rfl))
      clear hp
      simp only [fillAll, Act.put, List.setIfInBounds_toArray, List.set_cons_zero, List.set_cons_succ]
      refine chain_go ?_ (Wild.free_tells (HT2.out _ _ (a_w3.trans hx) p27))
      simp [go_sem, execOp]
  case htail =>
    intro g u hst hne
    have b_w4 : AnyLater w3 (later u) := ⟨u, rfl⟩
    generalize later u = w4 at *
    clear u hne
    obtain ⟨p27_w4, -⟩ := hst _ (List.mem_of_getElem? (i := 0) rfl)
    (try dsimp only at p27_w4)
    obtain ⟨p33_w4, -⟩ := hst _ (List.mem_of_getElem? (i := 1) rfl)
    (try dsimp only at p33_w4)
    clear hst
    simp only [fillAll, Act.put, List.setIfInBounds_toArray, List.set_cons_zero, List.set_cons_succ, List.drop_succ_cons, List.drop_zero, List.drop_nil]
    generalize g 3 = v27 at *
    generalize g 9 = v33 at *
    have z_w4 := b_w4.below.size
    have a_w4 := a_w3.trans b_w4
    have s0_w4 := any_own b_w4 s0_w3
    have s1_w4 := any_own b_w4 s1_w3
    have r0_w4 := own_row s0_w4
    have f0_w4 := own_free s0_w4
    have l0_w4 := own_lt s0_w4
    have r1_w4 := own_row s1_w4
    have f1_w4 := own_free s1_w4
    have l1_w4 := own_lt s1_w4
    (try clear r0_w3); (try clear f0_w3)
    (try clear r1_w3); (try clear f1_w3)
    go_wp2_with fail
    go_ret
    exact ⟨_, rfl, a_w4, p33_w4⟩
set_option maxRecDepth 100000 in
set_option maxHeartbeats 1600000 in
theorem turnLeft_steep (l b c o : Tr) (q s p : Pc) (v lv bv fv : Value) (w : World) (h : IsT w (.node (.node b s c) q o) v) (hl : IsT w l lv) (hp : RIsP w bv fv p) (hF : (Tr.node (.node b s c) q o).Fair) (fp : p.Fair) (fl : l.Fair) (hn : l.len + p.b.length + (Tr.node (.node b s c) q o).len ≤ 90000) (hlev : ¬ (Tr.node b s c).lev ≤ o.lev) :
    Calls Tryz.prog 81 #[lv, pcV bv fv p, v] w (Ans (isT (.node (.node l p b) s (.node c q o))) w) := by
  obtain ⟨⟨fb, fs, fc⟩, fq, fo⟩ := hF
  have hn2 : l.len + p.b.length + ((b.len + s.b.length + c.len) + q.b.length + o.len) ≤ 90000 := hn
  obtain ⟨k, iv, ov, qv, gv, rfl, hk, hi, ho, hq⟩ := h
  have HNo := Lib.hid (fun (w' : World) (b : AnyLater w w') => noted_any o ov w' (ho.later b))
  have HNi := Lib.hid (fun (w' : World) (e : AnyLater w w') => noted_any (.node b s c) iv w' (hi.later e))
  obtain ⟨k2, xv, yv, sv, tv, rfl, hk2, hb, hc, hs⟩ := hi
  have HT1 := Lib.hid (fun (w' : World) (e : AnyLater w w') => tie_any l b p lv xv bv fv w' (hl.later e) (hb.later e) (hp.later e) fl fb (by simp only [Tr.len]; omega))
  have HT2 := Lib.hid (fun (w' : World) (e : AnyLater w w') => tie_any c o q yv ov qv gv w' (hc.later e) (ho.later e) (hq.later e) fc fo (by simp only [Tr.len]; omega))
  have HT3 := Lib.hid (fun (w' : World) (u u2 : Value) (e : AnyLater w w') (hu : isT (.node l p b) u w') (hu2 : isT (.node c q o) u2 w') => tie_any (.node l p b) (.node c q o) s u u2 sv tv w' hu hu2 (hs.later e) ⟨fl, fp, fb⟩ ⟨fc, fq, fo⟩ (by simp only [Tr.len]; omega))
  have HK := Lib.hid (And.intro hk hk2)
  obtain ⟨A, cap, rfl, -⟩ := hp.1.form
  obtain ⟨A2, cap2, rfl, -⟩ := hp.2.form
  obtain ⟨A3, cap3, rfl, -⟩ := hq.1.form
  obtain ⟨A4, cap4, rfl, -⟩ := hq.2.form
  obtain ⟨A5, cap5, rfl, -⟩ := hs.1.form
  obtain ⟨A6, cap6, rfl, -⟩ := hs.2.form
  unfold nodeC at HK
  unfold sumV at HNo HNi
  unfold pcV at HT1 HT2 HT3 ⊢
  have d1 : decide ((Tr.node b s c).lev ≤ o.lev) = false := decide_eq_false (by omega)
  have f3 := fld3
  clear hl hq ho hp hk hn hn2 hlev hb hc hs hk2
  generalize o.lev = x1 at *
  generalize (Tr.node b s c).lev = x2 at *
  generalize p.b.length = n at *
  generalize p.fs.length = m at *
  generalize p.base = b0 at *
  generalize q.b.length = n2 at *
  generalize q.fs.length = m2 at *
  generalize q.base = b1 at *
  generalize s.b.length = n3 at *
  generalize s.fs.length = m3 at *
  generalize s.base = b3 at *
  go_enter Tryz.func81, Tryz.ntmps81
  go_wp2_with fail
  first | refine settle_wp (fun wS => AnyLater w wS ∧ wS.heap[w.heap.size]? = some (.cells #[.slice A n cap, .slice A2 m cap2, .int .i64 b0] 94)) ?_ ?_ | refine settle_calls (fun wS => AnyLater w wS ∧ wS.heap[w.heap.size]? = some (.cells #[.slice A n cap, .slice A2 m cap2, .int .i64 b0] 94)) ?_ ?_
  · refine ⟨?_, ?_⟩
    · repeat' (first | with_reducible assumption | with_reducible exact AnyLater.refl _ | with_reducible apply AnyLater.setCell | with_reducible apply AnyLater.later | with_reducible apply AnyLater.drewN | with_reducible apply AnyLater.drew | with_reducible apply AnyLater.alloc | ((try simp only [World.size_alloc, World.size_setCell, World.size_drew]); (try dsimp only); omega))
    · ((repeat (first | with_reducible assumption | ((with_reducible apply heap_new); (try simp only [World.size_alloc, World.size_setCell, World.size_drew, World.heap_drewN]); done) | ((with_reducible apply heap_new); (try simp only [World.size_alloc, World.size_setCell, World.size_drew, World.heap_drewN]); omega) | (with_reducible refine heap_old (by (try simp only [World.size_alloc, World.size_setCell, World.size_drew, World.heap_drewN]); omega) ?_) | (with_reducible refine heap_drew ?_) | (with_reducible refine heap_far (by omega) ?_) | (with_reducible apply heap_at))); all_goals rfl)
  rintro w1 ⟨b_w1, s0_w1⟩
  have a_w1 := b_w1
  have r0_w1 := own_row s0_w1
  have f0_w1 := own_free s0_w1
  have l0_w1 := own_lt s0_w1
  have z_w1 := b_w1.below.size
  have s1_w1 := any_own a_w1 HK.out.1
  have s2_w1 := any_own a_w1 HK.out.2
  have r1_w1 := own_row s1_w1
  go_quiet (fail)
  go_wp2_with fail
  refine (HNo.out _ (a_w1.drewN _)).mono ?_
  rintro e w2 ⟨rfl, c2⟩
  have b_w2 : AnyLater w1 w2 := ((AnyLater.refl w1).drewN _).trans c2
  have z_w2 := b_w2.below.size
  have a_w2 := a_w1.trans b_w2
  have s0_w2 := any_own b_w2 s0_w1
  have s1_w2 := any_own b_w2 s1_w1
  have s2_w2 := any_own b_w2 s2_w1
  have r0_w2 := own_row s0_w2
  have f0_w2 := own_free s0_w2
  have l0_w2 := own_lt s0_w2
  have r1_w2 := own_row s1_w2
  have f1_w2 := own_free s1_w2
  have l1_w2 := own_lt s1_w2
  have r2_w2 := own_row s2_w2
  have f2_w2 := own_free s2_w2
  have l2_w2 := own_lt s2_w2
  (try clear r0_w1); (try clear f0_w1)
  (try clear r1_w1); (try clear f1_w1)
  (try clear r2_w1); (try clear f2_w1)
  clear c2
  go_wp2_with fail
  refine (HNi.out _ a_w2).mono ?_
  rintro e w3 ⟨rfl, b_w3⟩
  have z_w3 := b_w3.below.size
  have a_w3 := a_w2.trans b_w3
  have s0_w3 := any_own b_w3 s0_w2
  have s1_w3 := any_own b_w3 s1_w2
  have s2_w3 := any_own b_w3 s2_w2
  have r0_w3 := own_row s0_w3
  have f0_w3 := own_free s0_w3
  have l0_w3 := own_lt s0_w3
  have r1_w3 := own_row s1_w3
  have f1_w3 := own_free s1_w3
  have l1_w3 := own_lt s1_w3
  have r2_w3 := own_row s2_w3
  have f2_w3 := own_free s2_w3
  have l2_w3 := own_lt s2_w3
  (try clear r0_w2); (try clear f0_w2)
  (try clear r1_w2); (try clear f1_w2)
  (try clear r2_w2); (try clear f2_w2)
  go_wp2_with fail
  apply Wild.wp_region_free (22) [⟨6, 40, undef, true, isT (.node l p b)⟩, ⟨20, 54, undef, true, isT (.node c q o)⟩, ⟨21, 55, undef, true, isT (.node (.node l p b) s (.node c q o))⟩] [⟨6, 40, isT (.node l p b)⟩, ⟨20, 54, isT (.node c q o)⟩, ⟨21, 55, isT (.node (.node l p b) s (.node c q o))⟩] rfl (by kernel_rfl) (by kernel_rfl) (by kernel_rfl) (by simp) (by kernel_rfl)
  case hstab =>
    intro c hc
    simp only [List.mem_cons, List.not_mem_nil, or_false] at hc
    rcases hc with rfl | rfl | rfl
    · intro v x y hxy hv; exact isT_stays hxy hv
    · intro v x y hxy hv; exact isT_stays hxy hv
    · intro v x y hxy hv; exact isT_stays hxy hv
  case hfix =>
    intro c hc
    simp only [List.mem_cons, List.not_mem_nil, or_false] at hc
    rcases hc with rfl | rfl | rfl
    · exact .inl rfl
    · exact .inl rfl
    · exact .inl rfl
  case hlex =>
    intro U hU
    have q0 := own_row (any_own hU s0_w3)
    have q1 := own_row (any_own hU s1_w3)
    have q2 := own_row (any_own hU s2_w3)
    simp only [List.map_cons, List.map_nil, CA.act, actFrom, actOp, List.lookup, Nat.reduceBEq, Nat.reduceLeDiff, Nat.reduceAdd, if_false, if_true]
    repeat (go_big_quiet_step (fail))
    exact wpQuiet_nil rfl
  case hstep =>
    intro j hj o ho
    have hj2 : j = 0 ∨ j = 1 ∨ j = 2 := by simp at hj; omega
    rcases hj2 with rfl | rfl | rfl
    · cases ho
      refine ⟨rfl, fun g x hx hp => ?_⟩
      clear hp
      simp only [fillAll, Act.put, List.setIfInBounds_toArray, List.set_cons_zero, List.set_cons_succ]
      refine chain_go ?_ (Wild.free_tells (HT1.out x (a_w3.trans hx)))
      simp [go_sem, execOp]
    · cases ho
      refine ⟨rfl, fun g x hx hp => ?_⟩
      clear hp
      simp only [fillAll, Act.put, List.setIfInBounds_toArray, List.set_cons_zero, List.set_cons_succ]
      refine chain_go ?_ (Wild.free_tells (HT2.out x (a_w3.trans hx)))
      simp [go_sem, execOp]
    · cases ho
      refine ⟨rfl, fun g x hx hp => ?_⟩
      have p40 : (isT (.node l p b)) (g 6) x := hp _ (List.mem_of_getElem? (i := 0) rfl) (List.contains_iff_mem.1 (by kernel_rfl))
      have p54 : (isT (.node c q o)) (g 20) x := hp _ (List.mem_of_getElem? (i := 1) rfl) (List.contains_iff_mem.1 (by kernel_rfl))
      clear hp
      simp only [fillAll, Act.put, List.setIfInBounds_toArray, List.set_cons_zero, List.set_cons_succ]
      refine chain_go ?_ (Wild.free_tells (HT3.out _ _ _ (a_w3.trans hx) p40 p54))
      simp [go_sem, execOp]
  case htail =>
    intro g u hst hne
    have b_w4 : AnyLater w3 (later u) := ⟨u, rfl⟩
    generalize later u = w4 at *
    clear u hne
    obtain ⟨p40_w4, -⟩ := hst _ (List.mem_of_getElem? (i := 0) rfl)
    (try dsimp only at p40_w4)
    obtain ⟨p54_w4, -⟩ := hst _ (List.mem_of_getElem? (i := 1) rfl)
    (try dsimp only at p54_w4)
    obtain ⟨p55_w4, -⟩ := hst _ (List.mem_of_getElem? (i := 2) rfl)
    (try dsimp only at p55_w4)
    clear hst
    simp only [fillAll, Act.put, List.setIfInBounds_toArray, List.set_cons_zero, List.set_cons_succ, List.drop_succ_cons, List.drop_zero, List.drop_nil]
    generalize g 6 = v40 at *
    generalize g 20 = v54 at *
    generalize g 21 = v55 at *
    have z_w4 := b_w4.below.size
    have a_w4 := a_w3.trans b_w4
    have s0_w4 := any_own b_w4 s0_w3
    have s1_w4 := any_own b_w4 s1_w3
    have s2_w4 := any_own b_w4 s2_w3
    have r0_w4 := own_row s0_w4
    have f0_w4 := own_free s0_w4
    have l0_w4 := own_lt s0_w4
    have r1_w4 := own_row s1_w4
    have f1_w4 := own_free s1_w4
    have l1_w4 := own_lt s1_w4
    have r2_w4 := own_row s2_w4
    have f2_w4 := own_free s2_w4
    have l2_w4 := own_lt s2_w4
    (try clear r0_w3); (try clear f0_w3)
    (try clear r1_w3); (try clear f1_w3)
    (try clear r2_w3); (try clear f2_w3)
    go_wp2_with fail
    go_ret
    exact ⟨_, rfl, a_w4, p55_w4⟩
/-- a piece between two parts, of which the right one is too deep -/
theorem turnLeft_any (l i o : Tr) (q p : Pc) (v lv bv fv : Value) (w : World) (t : Tr) (ht : Tr.turnL l p (.node i q o) = t) (h : IsT w (.node i q o) v) (hl : IsT w l lv) (hp : RIsP w bv fv p) (hF : (Tr.node i q o).Fair) (fp : p.Fair) (fl : l.Fair) (hn : l.len + p.b.length + (Tr.node i q o).len ≤ 90000) :
    Calls Tryz.prog 81 #[lv, pcV bv fv p, v] w (Ans (isT t) w) := by
  subst ht
  cases i with
  | nil => exact turnLeft_flat l .nil o q p v lv bv fv w h hl hp hF fp fl hn (Nat.zero_le _)
  | node b s c =>
    rw [Tr.turnL_node]
    split
    · rename_i hc
      exact turnLeft_flat l _ o q p v lv bv fv w h hl hp hF fp fl hn hc
    · rename_i hc
      exact turnLeft_steep l b c o q s p v lv bv fv w h hl hp hF fp fl hn hc
end Go.Proofs.YtiicaldnegcdiaaGreat
