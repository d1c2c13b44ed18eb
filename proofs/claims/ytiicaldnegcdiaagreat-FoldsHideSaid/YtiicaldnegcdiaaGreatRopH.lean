/- rope: two parts side by side, a part split: by contract. -/
import Derived.Test.YtiicaldnegcdiaaGreatRopG
import Derived.Test.YtiicaldnegcdiaaGreatEarly
namespace Go.Proofs.YtiicaldnegcdiaaGreat
set_option linter.unusedSimpArgs false
set_option linter.unusedVariables false
set_option linter.unusedSectionVars false
open Go.RowKit

/-! ### split -/
def isTT (t : Tr × Tr) (v : Value) (w : World) : Prop := ∃ u1 u2, v = .tuple #[u1, u2] ∧ IsT w t.1 u1 ∧ IsT w t.2 u2
set_option maxRecDepth 100000 in
theorem split_nil (i : Int) (w : World) : Calls Tryz.prog 57 #[.pointer none, .int .i64 i] w (Ans (isTT (.nil, .nil)) w) := by
  go_enter Tryz.func57, Tryz.ntmps57
  go_wp2_with fail
  refine bodyPost_ret (v := .tuple #[.pointer none, .pointer none]) (by simp [results, Tryz.results57, go_sem]) rfl ?_
  exact ⟨_, rfl, AnyLater.refl _, _, _, rfl, rfl, rfl⟩
set_option maxRecDepth 100000 in
set_option maxHeartbeats 1600000 in
theorem split_left (l r : Tr) (p : Pc) (v : Value) (w : World) (i : Nat) (s : Tr × Tr) (t : Tr) (ht : Tr.join s.2 p r = t) (h : IsT w (.node l p r) v) (hF : (Tr.node l p r).Fair) (hn : (Tr.node l p r).len ≤ 90000) (hi : i ≤ l.len)
    (ih : ∀ (u : Value) (w' : World), IsT w' l u → Calls Tryz.prog 57 #[u, .int .i64 (i : Int)] w' (Ans (isTT s) w')) (f2 : s.2.Fair) (hs : s.2.len ≤ l.len) :
    Calls Tryz.prog 57 #[v, .int .i64 (i : Int)] w (Ans (isTT (s.1, t)) w) := by
  have HN := Lib.hid (fun (w' : World) (b : AnyLater w w') => ends_any l r p v w' (h.later b) hn)
  obtain ⟨k, lv, rv, bv, fv, rfl, hk, hl, hr, hp⟩ := h
  obtain ⟨fl, fp, fr⟩ := hF
  have hn2 : l.len + p.b.length + r.len ≤ 90000 := hn
  have HI := Lib.hid (fun (w' : World) (b : AnyLater w w') => ih lv w' (hl.later b))
  have HJ := Lib.hid (fun (w' : World) (u : Value) (b : AnyLater w w') (hu : IsT w' s.2 u) => rjoin_any s.2 r p u rv bv fv w' t ht hu (hr.later b) (hp.later b) f2 fp fr (by omega))
  have HD : Hid (∀ w' u1 u2, IsT w' s.1 u1 → isT t u2 w' → isTT (s.1, t) (.tuple #[u1, u2]) w') := Lib.hid (fun w' u1 u2 h1 h2 => ⟨_, _, rfl, h1, h2⟩)
  have HK := Lib.hid hk
  obtain ⟨A, cap, rfl, -⟩ := hp.1.form
  obtain ⟨A2, cap2, rfl, -⟩ := hp.2.form
  have d1 : (i : Int) ≤ (l.len : Int) := by omega
  have l0 := own_lt hk
  have r0 := own_row hk
  unfold nodeC at HK r0
  unfold pcV at HJ
  clear hl hr hp hk fl fp fr hn hn2 ih ht f2 hs hi
  generalize p.b.length = n at *
  generalize p.fs.length = m at *
  generalize p.base = b0 at *
  generalize l.len = e1 at *
  go_enter Tryz.func57, Tryz.ntmps57
  go_wp2_with fail
  refine (HN.out _ (AnyLater.refl w)).mono ?_
  rintro e w1 ⟨rfl, b_w1⟩
  have a_w1 := b_w1
  have s0_w1 := any_own b_w1 HK.out
  have r0_w1 := own_row s0_w1
  clear r0
  go_wp2_with fail
  refine (HI.out _ a_w1).mono ?_
  rintro e w2 ⟨_, rfl, b_w2, u1, u2, rfl, h1, h2⟩
  have z_w2 := b_w2.below.size
  have a_w2 := a_w1.trans b_w2
  have s0_w2 := any_own b_w2 s0_w1
  have r0_w2 := own_row s0_w2
  have f0_w2 := own_free s0_w2
  have l0_w2 := own_lt s0_w2
  (try clear r0_w1); (try clear f0_w1)
  have HU := Lib.hid (And.intro h1 h2)
  clear h1 h2
  go_wp2_with fail
  apply Wild.wp_region_free (12) [⟨10, 39, undef, true, isT t⟩] [⟨10, 39, isT t⟩] rfl (by kernel_rfl) (by kernel_rfl) (by kernel_rfl) (by simp) (by kernel_rfl)
  case hstab =>
    intro c hc
    simp only [List.mem_cons, List.not_mem_nil, or_false] at hc
    rcases hc with rfl
    · intro v x y hxy hv; exact isT_stays hxy hv
  case hfix =>
    intro c hc
    simp only [List.mem_cons, List.not_mem_nil, or_false] at hc
    rcases hc with rfl
    · exact .inl rfl
  case hlex =>
    intro U hU
    have q0 := own_row (any_own hU s0_w2)
    simp only [List.map_cons, List.map_nil, CA.act, actFrom, actOp, List.lookup, Nat.reduceBEq, Nat.reduceLeDiff, Nat.reduceAdd, if_false, if_true]
    repeat (go_big_quiet_step (fail))
    exact wpQuiet_nil rfl
  case hstep =>
    intro j hj o ho
    have hj2 : j = 0 := by simp at hj; omega
    rcases hj2 with rfl
    · cases ho
      refine ⟨rfl, fun g x hx hp => ?_⟩
      clear hp
      simp only [fillAll, Act.put, List.setIfInBounds_toArray, List.set_cons_zero, List.set_cons_succ]
      refine chain_go ?_ (Wild.free_tells (HJ.out _ _ (a_w2.trans hx) (HU.out.2.later hx)))
      simp [go_sem, execOp]
  case htail =>
    intro g u hst hne
    have b_w3 : AnyLater w2 (later u) := ⟨u, rfl⟩
    generalize later u = w3 at *
    clear u hne
    obtain ⟨p39_w3, -⟩ := hst _ (List.mem_of_getElem? (i := 0) rfl)
    (try dsimp only at p39_w3)
    clear hst
    simp only [fillAll, Act.put, List.setIfInBounds_toArray, List.set_cons_zero, List.set_cons_succ, List.drop_succ_cons, List.drop_zero, List.drop_nil]
    generalize g 10 = v39 at *
    have z_w3 := b_w3.below.size
    have a_w3 := a_w2.trans b_w3
    have s0_w3 := any_own b_w3 s0_w2
    have r0_w3 := own_row s0_w3
    have f0_w3 := own_free s0_w3
    have l0_w3 := own_lt s0_w3
    (try clear r0_w2); (try clear f0_w2)
    go_wp2_with fail
    refine bodyPost_ret (v := .tuple #[u1, v39]) (by simp [results, Tryz.results57, go_sem]) rfl ?_
    exact ⟨_, rfl, a_w3, HD.out _ _ _ (HU.out.1.later b_w3) p39_w3⟩
set_option maxRecDepth 100000 in
set_option maxHeartbeats 1600000 in
theorem split_right (l r : Tr) (p : Pc) (v : Value) (w : World) (i : Nat) (s : Tr × Tr) (t : Tr) (ht : Tr.join l p s.1 = t) (h : IsT w (.node l p r) v) (hF : (Tr.node l p r).Fair) (hn : (Tr.node l p r).len ≤ 90000) (hi : ¬ i ≤ l.len) (hi2 : l.len + p.b.length ≤ i) (hi3 : i ≤ 90000)
    (ih : ∀ (x : Int) (u : Value) (w' : World), x = ((i - (l.len + p.b.length) : Nat) : Int) → IsT w' r u → Calls Tryz.prog 57 #[u, .int .i64 x] w' (Ans (isTT s) w')) (f2 : s.1.Fair) (hs : s.1.len ≤ r.len) :
    Calls Tryz.prog 57 #[v, .int .i64 (i : Int)] w (Ans (isTT (t, s.2)) w) := by
  have HN := Lib.hid (fun (w' : World) (b : AnyLater w w') => ends_any l r p v w' (h.later b) hn)
  obtain ⟨k, lv, rv, bv, fv, rfl, hk, hl, hr, hp⟩ := h
  obtain ⟨fl, fp, fr⟩ := hF
  have hn2 : l.len + p.b.length + r.len ≤ 90000 := hn
  have HI := Lib.hid (fun (w' : World) (b : AnyLater w w') => ih ((i : Int) - ((l.len : Int) + (p.b.length : Int))) rv w' (by omega) (hr.later b))
  have HJ := Lib.hid (fun (w' : World) (u : Value) (b : AnyLater w w') (hu : IsT w' s.1 u) => rjoin_any l s.1 p lv u bv fv w' t ht (hl.later b) hu (hp.later b) fl fp f2 (by omega))
  have HD : Hid (∀ w' u1 u2, isT t u1 w' → IsT w' s.2 u2 → isTT (t, s.2) (.tuple #[u1, u2]) w') := Lib.hid (fun w' u1 u2 h1 h2 => ⟨_, _, rfl, h1, h2⟩)
  have HK := Lib.hid hk
  obtain ⟨A, cap, rfl, -⟩ := hp.1.form
  obtain ⟨A2, cap2, rfl, -⟩ := hp.2.form
  have d1 : decide (i ≤ l.len) = false := decide_eq_false hi
  have d2 : decide ((i : Int) ≤ (l.len : Int)) = false := decide_eq_false (by omega)
  have d3 : (l.len : Int) + (p.b.length : Int) ≤ (i : Int) := by omega
  have b1 : l.len ≤ 90000 := by omega
  have b2 : p.b.length ≤ 90000 := by omega
  have r0 := own_row hk
  unfold nodeC at HK r0
  unfold pcV at HJ
  clear hl hr hp hk fl fp fr hn hn2 ih ht f2 hs hi hi2
  generalize p.b.length = n at *
  generalize p.fs.length = m at *
  generalize p.base = b0 at *
  generalize l.len = e1 at *
  go_enter Tryz.func57, Tryz.ntmps57
  go_wp2_with fail
  refine (HN.out _ (AnyLater.refl w)).mono ?_
  rintro e w1 ⟨rfl, b_w1⟩
  have a_w1 := b_w1
  have s0_w1 := any_own b_w1 HK.out
  have r0_w1 := own_row s0_w1
  clear r0
  go_wp2_with fail
  refine (HI.out _ a_w1).mono ?_
  rintro e w2 ⟨_, rfl, b_w2, u1, u2, rfl, h1, h2⟩
  have z_w2 := b_w2.below.size
  have a_w2 := a_w1.trans b_w2
  have s0_w2 := any_own b_w2 s0_w1
  have r0_w2 := own_row s0_w2
  have f0_w2 := own_free s0_w2
  have l0_w2 := own_lt s0_w2
  (try clear r0_w1); (try clear f0_w1)
  have HU := Lib.hid (And.intro h1 h2)
  clear h1 h2
  go_wp2_with fail
  refine wp_region_early _ 8 4 u1 _ _ (by kernel_rfl) rfl rfl (by kernel_rfl) rfl (by simp only [List.set_cons_succ, List.set_cons_zero]; exact rfl) ?_
  apply Wild.any_free (12) [⟨9, 64, undef, true, isT t⟩, ⟨11, 4, undef, true, isT t⟩] [⟨9, 64, isT t⟩, ⟨11, 4, isT t⟩] rfl (by kernel_rfl) (by kernel_rfl) (by kernel_rfl) (by simp) (by kernel_rfl)
  case hstab =>
    intro c hc
    simp only [List.mem_cons, List.not_mem_nil, or_false] at hc
    rcases hc with rfl | rfl
    · intro v x y hxy hv; exact isT_stays hxy hv
    · intro v x y hxy hv; exact isT_stays hxy hv
  case hfix =>
    intro c hc
    simp only [List.mem_cons, List.not_mem_nil, or_false] at hc
    rcases hc with rfl | rfl
    · exact .inl rfl
    · exact .inl rfl
  case hlex =>
    intro U hU
    have q0 := own_row (any_own hU s0_w2)
    simp only [List.map_cons, List.map_nil, CA.act, actFrom, actOp, List.lookup, Nat.reduceBEq, Nat.reduceLeDiff, Nat.reduceAdd, if_false, if_true]
    repeat (go_big_quiet_step (fail))
    exact wpQuiet_nil rfl
  case hstep =>
    intro j hj o ho
    have hj2 : j = 0 ∨ j = 1 := by simp at hj; omega
    rcases hj2 with rfl | rfl
    · cases ho
      refine ⟨rfl, fun g x hx hp => ?_⟩
      clear hp
      simp only [fillAll, Act.put, List.setIfInBounds_toArray, List.set_cons_zero, List.set_cons_succ]
      refine chain_go ?_ (Wild.free_tells (HJ.out _ _ (a_w2.trans hx) (HU.out.1.later hx)))
      simp [go_sem, execOp]
    · cases ho
      refine ⟨rfl, fun g x hx hp => ?_⟩
      have p64 : (isT t) (g 9) x := hp _ (List.mem_of_getElem? (i := 0) rfl) (List.contains_iff_mem.1 (by kernel_rfl))
      clear hp
      simp only [fillAll, Act.put, List.setIfInBounds_toArray, List.set_cons_zero, List.set_cons_succ]
      refine Wild.free_is (v := g 9) ?_ p64; simp [go_sem, execOp]
  case htail =>
    intro g u hst hne
    have b_w3 : AnyLater w2 (later u) := ⟨u, rfl⟩
    generalize later u = w3 at *
    clear u hne
    obtain ⟨p64_w3, -⟩ := hst _ (List.mem_of_getElem? (i := 0) rfl)
    (try dsimp only at p64_w3)
    obtain ⟨p4_w3, -⟩ := hst _ (List.mem_of_getElem? (i := 1) rfl)
    (try dsimp only at p4_w3)
    clear hst
    simp only [fillAll, Act.put, List.setIfInBounds_toArray, List.set_cons_zero, List.set_cons_succ, List.drop_succ_cons, List.drop_zero, List.drop_nil]
    generalize g 9 = v64 at *
    generalize g 11 = v4 at *
    have z_w3 := b_w3.below.size
    have a_w3 := a_w2.trans b_w3
    have s0_w3 := any_own b_w3 s0_w2
    have r0_w3 := own_row s0_w3
    have f0_w3 := own_free s0_w3
    have l0_w3 := own_lt s0_w3
    (try clear r0_w2); (try clear f0_w2)
    go_wp2_with fail
    refine bodyPost_ret (v := .tuple #[v4, u2]) (by simp [results, Tryz.results57, go_sem]) rfl ?_
    exact ⟨_, rfl, a_w3, HD.out _ _ _ p4_w3 (HU.out.2.later b_w3)⟩
set_option maxRecDepth 100000 in
set_option maxHeartbeats 3200000 in
theorem split_mid (l r : Tr) (p : Pc) (v : Value) (w : World) (i d : Nat) (t1 t2 : Tr) (ht1 : Tr.join l (p.cut 0 d) .nil = t1) (ht2 : Tr.join .nil (p.cut d p.b.length) r = t2) (h : IsT w (.node l p r) v) (hF : (Tr.node l p r).Fair) (hn : (Tr.node l p r).len ≤ 90000) (hi : i = l.len + d) (hd : 0 < d) (hd2 : d < p.b.length) :
    Calls Tryz.prog 57 #[v, .int .i64 (i : Int)] w (Ans (isTT (t1, t2)) w) := by
  have HN := Lib.hid (fun (w' : World) (b : AnyLater w w') => ends_any l r p v w' (h.later b) hn)
  obtain ⟨k, lv, rv, bv, fv, rfl, hk, hl, hr, hp⟩ := h
  obtain ⟨fl, fp, fr⟩ := hF
  have hn2 : l.len + p.b.length + r.len ≤ 90000 := hn
  have g1 : (p.cut 0 d).Fair := fp.cut hd (by omega)
  have g2 : (p.cut d p.b.length).Fair := fp.cut hd2 (Nat.le_refl _)
  have k1 : (p.cut 0 d).b.length ≤ p.b.length := by unfold Pc.cut; simp only [List.length_take, List.length_drop]; omega
  have k2 : (p.cut d p.b.length).b.length ≤ p.b.length := by unfold Pc.cut; simp only [List.length_take, List.length_drop]; omega
  have HC1 := Lib.hid (fun (w' : World) (b : AnyLater w w') => cut_any p bv fv w' 0 ((i : Int) - (l.len : Int)) 0 d rfl (by omega) (by omega) (by omega) (hp.later b) fp)
  have HC2 := Lib.hid (fun (w' : World) (b : AnyLater w w') => cut_any p bv fv w' ((i : Int) - (l.len : Int)) ((l.len : Int) + (p.b.length : Int) - (l.len : Int)) d p.b.length (by omega) (by omega) (by omega) (Nat.le_refl _) (hp.later b) fp)
  have HJ1 : Hid (∀ (w' : World) (u : Value), AnyLater w w' → isPc (p.cut 0 d) u w' → Calls Tryz.prog 58 #[lv, u, .pointer none] w' (Ans (isT t1) w')) := Lib.hid (fun w' u b hu => by
    obtain ⟨x, y, rfl, hu⟩ := hu
    exact rjoin_any l .nil _ lv (.pointer none) x y w' t1 ht1 (hl.later b) rfl hu fl g1 trivial (by simp only [Tr.len]; omega))
  have HJ2 : Hid (∀ (w' : World) (u : Value), AnyLater w w' → isPc (p.cut d p.b.length) u w' → Calls Tryz.prog 58 #[.pointer none, u, rv] w' (Ans (isT t2) w')) := Lib.hid (fun w' u b hu => by
    obtain ⟨x, y, rfl, hu⟩ := hu
    exact rjoin_any .nil r _ (.pointer none) rv x y w' t2 ht2 rfl (hr.later b) hu trivial g2 fr (by simp only [Tr.len]; omega))
  have HD : Hid (∀ w' u1 u2, isT t1 u1 w' → isT t2 u2 w' → isTT (t1, t2) (.tuple #[u1, u2]) w') := Lib.hid (fun w' u1 u2 h1 h2 => ⟨_, _, rfl, h1, h2⟩)
  have HK := Lib.hid hk
  obtain ⟨A, cap, rfl, -⟩ := hp.1.form
  obtain ⟨A2, cap2, rfl, -⟩ := hp.2.form
  have d1 : decide (i ≤ l.len) = false := decide_eq_false (by omega)
  have d2 : decide ((i : Int) ≤ (l.len : Int)) = false := decide_eq_false (by omega)
  have d3 : decide ((l.len : Int) + (p.b.length : Int) ≤ (i : Int)) = false := decide_eq_false (by omega)
  have b1 : l.len ≤ 90000 := by omega
  have b2 : p.b.length ≤ 90000 := by omega
  have b3 : i ≤ 180000 := by omega
  have b4 : l.len ≤ i := by omega
  have r0 := own_row hk
  unfold nodeC at HK r0
  unfold pcV at HC1 HC2
  clear hl hr hp hk fl fp fr hn hn2 ht1 ht2 hi hd hd2 k1 k2 g1 g2
  generalize p.cut 0 d = q1 at *
  generalize p.cut d p.b.length = q2 at *
  generalize p.b.length = n at *
  generalize p.fs.length = m at *
  generalize p.base = b0 at *
  generalize l.len = e1 at *
  go_enter Tryz.func57, Tryz.ntmps57
  go_wp2_with fail
  refine (HN.out _ (AnyLater.refl w)).mono ?_
  rintro e w1 ⟨rfl, b_w1⟩
  have a_w1 := b_w1
  have s0_w1 := any_own b_w1 HK.out
  have r0_w1 := own_row s0_w1
  clear r0
  go_wp2_with fail
  apply Wild.wp_region_free (26) [⟨9, 78, undef, true, isPc q1⟩, ⟨10, 79, undef, true, isT t1⟩, ⟨19, 88, undef, true, isPc q2⟩, ⟨24, 93, undef, true, isT t2⟩, ⟨25, 4, undef, true, isT t1⟩] [⟨9, 78, isPc q1⟩, ⟨10, 79, isT t1⟩, ⟨19, 88, isPc q2⟩, ⟨24, 93, isT t2⟩, ⟨25, 4, isT t1⟩] rfl (by kernel_rfl) (by kernel_rfl) (by kernel_rfl) (by simp) (by kernel_rfl)
  case hstab =>
    intro c hc
    simp only [List.mem_cons, List.not_mem_nil, or_false] at hc
    rcases hc with rfl | rfl | rfl | rfl | rfl
    · intro v x y hxy hv; exact isPc_stays hxy hv
    · intro v x y hxy hv; exact isT_stays hxy hv
    · intro v x y hxy hv; exact isPc_stays hxy hv
    · intro v x y hxy hv; exact isT_stays hxy hv
    · intro v x y hxy hv; exact isT_stays hxy hv
  case hfix =>
    intro c hc
    simp only [List.mem_cons, List.not_mem_nil, or_false] at hc
    rcases hc with rfl | rfl | rfl | rfl | rfl
    · exact .inl rfl
    · exact .inl rfl
    · exact .inl rfl
    · exact .inl rfl
    · exact .inl rfl
  case hlex =>
    intro U hU
    have q0 := own_row (any_own hU s0_w1)
    simp only [List.map_cons, List.map_nil, CA.act, actFrom, actOp, List.lookup, Nat.reduceBEq, Nat.reduceLeDiff, Nat.reduceAdd, if_false, if_true]
    repeat (go_big_quiet_step (fail))
    exact wpQuiet_nil rfl
  case hstep =>
    intro j hj o ho
    have hj2 : j = 0 ∨ j = 1 ∨ j = 2 ∨ j = 3 ∨ j = 4 := by simp at hj; omega
    rcases hj2 with rfl | rfl | rfl | rfl | rfl
    · cases ho
      refine ⟨rfl, fun g x hx hp => ?_⟩
      clear hp
      simp only [fillAll, Act.put, List.setIfInBounds_toArray, List.set_cons_zero, List.set_cons_succ]
      refine chain_go ?_ (Wild.free_tells (HC1.out _ (a_w1.trans hx)))
      simp [go_sem, execOp]
    · cases ho
      refine ⟨rfl, fun g x hx hp => ?_⟩
      have p78 : (isPc q1) (g 9) x := hp _ (List.mem_of_getElem? (i := 0) rfl) (List.contains_iff_mem.1 (by kernel_rfl))
      clear hp
      simp only [fillAll, Act.put, List.setIfInBounds_toArray, List.set_cons_zero, List.set_cons_succ]
      refine chain_go ?_ (Wild.free_tells (HJ1.out _ _ (a_w1.trans hx) p78))
      simp [go_sem, execOp]
    · cases ho
      refine ⟨rfl, fun g x hx hp => ?_⟩
      clear hp
      simp only [fillAll, Act.put, List.setIfInBounds_toArray, List.set_cons_zero, List.set_cons_succ]
      refine chain_go ?_ (Wild.free_tells (HC2.out _ (a_w1.trans hx)))
      simp [go_sem, execOp]
    · cases ho
      refine ⟨rfl, fun g x hx hp => ?_⟩
      have p88 : (isPc q2) (g 19) x := hp _ (List.mem_of_getElem? (i := 2) rfl) (List.contains_iff_mem.1 (by kernel_rfl))
      clear hp
      simp only [fillAll, Act.put, List.setIfInBounds_toArray, List.set_cons_zero, List.set_cons_succ]
      refine chain_go ?_ (Wild.free_tells (HJ2.out _ _ (a_w1.trans hx) p88))
      simp [go_sem, execOp]
    · cases ho
      refine ⟨rfl, fun g x hx hp => ?_⟩
      have p79 : (isT t1) (g 10) x := hp _ (List.mem_of_getElem? (i := 1) rfl) (List.contains_iff_mem.1 (by kernel_rfl))
      clear hp
      simp only [fillAll, Act.put, List.setIfInBounds_toArray, List.set_cons_zero, List.set_cons_succ]
      refine Wild.free_is (v := g 10) ?_ p79; simp [go_sem, execOp]
  case htail =>
    intro g u hst hne
    have b_w3 : AnyLater w1 (later u) := ⟨u, rfl⟩
    generalize later u = w3 at *
    clear u hne
    obtain ⟨p78_w3, -⟩ := hst _ (List.mem_of_getElem? (i := 0) rfl)
    (try dsimp only at p78_w3)
    obtain ⟨p79_w3, -⟩ := hst _ (List.mem_of_getElem? (i := 1) rfl)
    (try dsimp only at p79_w3)
    obtain ⟨p88_w3, -⟩ := hst _ (List.mem_of_getElem? (i := 2) rfl)
    (try dsimp only at p88_w3)
    obtain ⟨p93_w3, -⟩ := hst _ (List.mem_of_getElem? (i := 3) rfl)
    (try dsimp only at p93_w3)
    obtain ⟨p4_w3, -⟩ := hst _ (List.mem_of_getElem? (i := 4) rfl)
    (try dsimp only at p4_w3)
    clear hst
    simp only [fillAll, Act.put, List.setIfInBounds_toArray, List.set_cons_zero, List.set_cons_succ, List.drop_succ_cons, List.drop_zero, List.drop_nil]
    generalize g 9 = v78 at *
    generalize g 10 = v79 at *
    generalize g 19 = v88 at *
    generalize g 24 = v93 at *
    generalize g 25 = v4 at *
    have z_w3 := b_w3.below.size
    have a_w3 := a_w1.trans b_w3
    have s0_w3 := any_own b_w3 s0_w1
    have r0_w3 := own_row s0_w3
    have f0_w3 := own_free s0_w3
    have l0_w3 := own_lt s0_w3
    (try clear r0_w1); (try clear f0_w1)
    go_wp2_with fail
    refine bodyPost_ret (v := .tuple #[v4, v93]) (by simp [results, Tryz.results57, go_sem]) rfl ?_
    exact ⟨_, rfl, a_w3, HD.out _ _ _ p4_w3 p93_w3⟩
/-- what lies ahead of a place, and what behind -/
theorem rsplit_any : ∀ (t : Tr) (i : Nat) (x : Int) (v : Value) (w : World), x = (i : Int) → IsT w t v → t.Fair → t.len ≤ 90000 → i ≤ 90000 → Calls Tryz.prog 57 #[v, .int .i64 x] w (Ans (isTT (Tr.split t i)) w)
  | .nil, i, x, v, w, hx, h, _, _, _ => by
    obtain rfl : v = .pointer none := h
    exact split_nil x w
  | .node l p r, i, x, v, w, hx, h, hF, hn, hi => by
    subst hx
    have hn2 : l.len + p.b.length + r.len ≤ 90000 := hn
    unfold Tr.split
    split
    · rename_i c1
      have hl := (Tr.len_split l i c1).2
      exact split_left l r p v w i (Tr.split l i) _ rfl h hF hn c1 (fun u w' hu => rsplit_any l i _ u w' rfl hu hF.1 (by omega) hi) (Tr.fair_split l i hF.1).2 (by omega)
    · rename_i c1
      split
      · rename_i c2
        have hb := (Tr.bs_split r (i - (l.len + p.b.length))).1
        have hl := congrArg List.length hb
        rw [List.length_take, Tr.len_bs, Tr.len_bs] at hl
        exact split_right l r p v w i (Tr.split r (i - (l.len + p.b.length))) _ rfl h hF hn c1 c2 hi (fun x u w' hx hu => rsplit_any r _ x u w' hx hu hF.2.2 (by omega) (by omega)) (Tr.fair_split r _ hF.2.2).1 (by omega)
      · rename_i c2
        exact split_mid l r p v w i (i - l.len) _ _ rfl rfl h hF hn (by omega) (by omega) (by omega)
end Go.Proofs.YtiicaldnegcdiaaGreat
