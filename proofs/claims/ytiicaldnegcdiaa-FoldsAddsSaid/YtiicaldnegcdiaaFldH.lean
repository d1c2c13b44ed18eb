/- folds: FoldsAdds, FoldsDrops, walked. -/
import Derived.Test.YtiicaldnegcdiaaFldF
import Derived.Test.YtiicaldnegcdiaaFldG
import Derived.Test.YtiicaldnegcdiaaMake
import Derived.Test.YtiicaldnegcdiaaChain
namespace Go.Proofs.Ytiicaldnegcdiaa
set_option linter.unusedSimpArgs false
set_option linter.unusedVariables false
set_option linter.unusedSectionVars false
open Go.RowKit

/-- a list and a code -/
def IsAns (M : Qs) (c : Int) (u : Value) (w : World) : Prop := ∃ v, u = .tuple #[v, .int .i64 c] ∧ QR w v M
theorem IsAns.later {M : Qs} {c : Int} {u : Value} {w w' : World} (a : AnyLater w w') (h : IsAns M c u w) : IsAns M c u w' := by
  obtain ⟨v, e, h⟩ := h
  exact ⟨v, e, h.later a⟩
set_option maxRecDepth 100000 in
set_option maxHeartbeats 3200000 in
theorem foldsAdds_any (W : World) (v0 : Value) (z0 : Qs) (a1_0 a1_1 a2 : Int) (r0z : QR W v0 z0) :
    Calls Try.prog 11 #[v0, .agg #[.int .i64 a1_0, .int .i64 a1_1], .int .i64 a2] W fun e W' => e = .returned (.bool true) ∧ AnyLater W W' := by
  generalize W = w at *
  generalize a1_0 = f
  generalize a1_1 = t
  generalize a2 = n
  obtain ⟨l, hl⟩ : ∃ l, z0.take 30 = l := ⟨_, rfl⟩
  have hll : l.length ≤ 30 := by rw [← hl, List.length_take]; omega
  obtain ⟨M, hM⟩ : ∃ M, addL (f, t) l n = M := ⟨_, rfl⟩
  obtain ⟨cc, hcc⟩ : ∃ c, addC (f, t) l n = c := ⟨_, rfl⟩
  obtain ⟨gd, hgd⟩ : ∃ c, goodZ n 0 l = c := ⟨_, rfl⟩
  have hML : M.length ≤ 31 := by have := addL_len (f, t) l n; rw [hM] at this; omega
  have HFew1 := Lib.hid (fun (w' : World) (a : AnyLater w w') => (ffew_any v0 z0 l w' hl (r0z.later a)).mono fun _ _ q => q.qr)
  have HFew := Lib.hid (fun (x : World) (u : Value) (h : QR x u l) => (ffew_any u l l x (List.take_of_length_le hll) h).mono fun _ _ q => q.qr)
  have HAdd : Hid (∀ (x : World) (u : Value), QR x u l → Calls Try.prog 55 #[u, .agg #[.int .i64 f, .int .i64 t], .int .i64 n] x fun e w' => ∃ v, e = .returned v ∧ AnyLater x w' ∧ IsAns M cc v w') := Lib.hid (fun x u h => (fadd_any u l f t n x h (by omega)).mono fun e w' q => by
    obtain ⟨y, h1, h2, h3⟩ := q
    rw [hcc] at h1
    rw [hM] at h3
    exact ⟨_, h1, h2, y, rfl, h3⟩)
  have HXAdd : Hid (∀ (x : World) (u : Value), QR x u l → Calls Try.prog 56 #[u, .agg #[.int .i64 f, .int .i64 t], .int .i64 n] x fun e w' => ∃ v, e = .returned (.tuple #[v, .int .i64 cc]) ∧ AnyLater x w' ∧ QR w' v M) := Lib.hid (fun x u h => (xadd_any u l f t n x h (by omega)).mono fun e w' q => by
    obtain ⟨y, h1, h2, h3⟩ := q
    rw [hcc] at h1
    rw [hM] at h3
    exact ⟨_, h1, h2, h3⟩)
  have HGood := Lib.hid (fun (x : World) (u : Value) (h : QR x u l) => fgood_any u l n gd x hgd h (by omega))
  have HXGood := Lib.hid (fun (x : World) (u : Value) (h : QR x u l) => xfgood_any u l n gd x hgd h (by omega))
  have HSame := Lib.hid (fun (x : World) (u v : Value) (h : QR x u M) (h2 : QR x v M) => qsame_any u v M M x true (decide_eq_true rfl) h h2 (by omega))
  have HGood2 : Hid (cc = 0 → ∀ (x : World) (u : Value), QR x u M → Calls Try.prog 57 #[u, .int .i64 n] x fun e w' => e = .returned (.bool true) ∧ AnyLater x w') := Lib.hid (fun h0 x u h => fgood_any u M n true x (by rw [← hM]; exact addL_good (hcc.trans h0)) h (by omega))
  obtain ⟨A0, c0, rfl, -⟩ := r0z.form
  have gb : (gd == gd) = true := by simp
  clear hl hM hcc hgd r0z hll hML
  generalize z0.length = n0 at *
  by_cases h0 : cc = 0
  case' pos =>
    have HG2 := Lib.hid (HGood2.out h0)
    have d0 : (cc != 0) = false := by simp [h0]
    clear h0
  case' neg =>
    have d0 : (cc != 0) = true := by simpa using h0
    have HG2 := Lib.hid trivial
    clear h0
  all_goals
    go_enter Try.func11, Try.ntmps11
    go_wp2_with fail
    first | refine settle_wp (fun wS => AnyLater w wS ∧ wS.heap[w.heap.size]? = some (.cells #[.int .i64 f, .int .i64 t] 75)) ?_ ?_ | refine settle_calls (fun wS => AnyLater w wS ∧ wS.heap[w.heap.size]? = some (.cells #[.int .i64 f, .int .i64 t] 75)) ?_ ?_
    · refine ⟨?_, ?_⟩
      · repeat' (first | with_reducible assumption | with_reducible exact AnyLater.refl _ | with_reducible apply AnyLater.setCell | with_reducible apply AnyLater.later | with_reducible apply AnyLater.drewN | with_reducible apply AnyLater.drew | with_reducible apply AnyLater.alloc | ((try simp only [World.size_alloc, World.size_setCell, World.size_drew]); (try dsimp only); omega))
      · ((repeat (first | with_reducible assumption | ((with_reducible apply heap_new); (try simp only [World.size_alloc, World.size_setCell, World.size_drew, World.heap_drewN]); done) | ((with_reducible apply heap_new); (try simp only [World.size_alloc, World.size_setCell, World.size_drew, World.heap_drewN]); omega) | (with_reducible refine heap_old (by (try simp only [World.size_alloc, World.size_setCell, World.size_drew, World.heap_drewN]); omega) ?_) | (with_reducible refine heap_drew ?_) | (with_reducible refine heap_far (by omega) ?_) | (with_reducible apply heap_at))); all_goals rfl)
    rintro w1 ⟨b_w1, s0_w1⟩
    have a_w1 := b_w1
    have r0_w1 := own_row s0_w1
    have f0_w1 := own_free s0_w1
    have l0_w1 := own_lt s0_w1
    have z_w1 := b_w1.below.size
    refine (HFew1.out _ a_w1).mono ?_
    rintro e w2 ⟨u0, rfl, b_w2, q2⟩
    have z_w2 := b_w2.below.size
    have a_w2 := a_w1.trans b_w2
    have s0_w2 := any_own b_w2 s0_w1
    have r0_w2 := own_row s0_w2
    have f0_w2 := own_free s0_w2
    have l0_w2 := own_lt s0_w2
    (try clear r0_w1); (try clear f0_w1)
    have HQ := Lib.hid q2
    obtain ⟨A, cap, rfl, -⟩ := q2.form
    clear q2
    generalize l.length = m at *
    go_wp2_with fail
    apply Wild.wp_region_free (10) [⟨1, 15, undef, true, fun u w => QR w u l⟩, ⟨4, 18, undef, true, IsAns M cc⟩, ⟨5, 13, undef, true, IsAns M cc⟩, ⟨6, 19, undef, true, fun u w => QR w u M⟩, ⟨7, 20, .int .i64 cc, false, fun v _ => v = .int .i64 cc⟩, ⟨8, 7, undef, true, fun u w => QR w u M⟩] [⟨1, 15, fun u w => QR w u l⟩, ⟨4, 18, IsAns M cc⟩, ⟨5, 13, IsAns M cc⟩, ⟨6, 19, fun u w => QR w u M⟩, ⟨8, 7, fun u w => QR w u M⟩] rfl (by kernel_rfl) (by kernel_rfl) (by kernel_rfl) (by simp) (by kernel_rfl)
    case hstab =>
      intro c hc
      simp only [List.mem_cons, List.not_mem_nil, or_false] at hc
      rcases hc with rfl | rfl | rfl | rfl | rfl | rfl
      · intro v x y hxy hv; exact (fun h k => QR.later k h) hxy hv
      · intro v x y hxy hv; exact (fun h k => IsAns.later h k) hxy hv
      · intro v x y hxy hv; exact (fun h k => IsAns.later h k) hxy hv
      · intro v x y hxy hv; exact (fun h k => QR.later k h) hxy hv
      · intro v x y hxy hv; exact hv
      · intro v x y hxy hv; exact (fun h k => QR.later k h) hxy hv
    case hfix =>
      intro c hc
      simp only [List.mem_cons, List.not_mem_nil, or_false] at hc
      rcases hc with rfl | rfl | rfl | rfl | rfl | rfl
      · exact .inl rfl
      · exact .inl rfl
      · exact .inl rfl
      · exact .inl rfl
      · exact .inr fun u x h => h
      · exact .inl rfl
    case hlex =>
      intro U hU
      have q0 := own_row (any_own hU s0_w2)
      simp only [List.map_cons, List.map_nil, CA.act, actFrom, actOp, List.lookup, Nat.reduceBEq, Nat.reduceLeDiff, Nat.reduceAdd, if_false, if_true]
      repeat (go_big_quiet_step (fail))
      exact wpQuiet_nil rfl
    case hstep =>
      intro j hj o ho
      have hj2 : j = 0 ∨ j = 1 ∨ j = 2 ∨ j = 3 ∨ j = 4 ∨ j = 5 := by simp at hj; omega
      rcases hj2 with rfl | rfl | rfl | rfl | rfl | rfl
      · cases ho
        refine ⟨rfl, fun g x hx hp => ?_⟩
        clear hp
        simp only [fillAll, Act.put, List.setIfInBounds_toArray, List.set_cons_zero, List.set_cons_succ]
        refine chain_go ?_ (Wild.free_tells (HFew.out x _ (HQ.out.later hx)))
        simp [go_sem, execOp]
      · cases ho
        refine ⟨rfl, fun g x hx hp => ?_⟩
        have p15 : (fun u w => QR w u l) (g 1) x := hp _ (List.mem_of_getElem? (i := 0) rfl) (List.contains_iff_mem.1 (by kernel_rfl))
        clear hp
        simp only [fillAll, Act.put, List.setIfInBounds_toArray, List.set_cons_zero, List.set_cons_succ]
        refine chain_go ?_ (Wild.free_tells (HAdd.out x _ p15))
        simp [go_sem, execOp]
      · cases ho
        refine ⟨rfl, fun g x hx hp => ?_⟩
        have p18 : (IsAns M cc) (g 4) x := hp _ (List.mem_of_getElem? (i := 1) rfl) (List.contains_iff_mem.1 (by kernel_rfl))
        clear hp
        simp only [fillAll, Act.put, List.setIfInBounds_toArray, List.set_cons_zero, List.set_cons_succ]
        refine Wild.free_is (v := g 4) ?_ p18; simp [go_sem, execOp]
      · cases ho
        refine ⟨rfl, fun g x hx hp => ?_⟩
        have p13 : (IsAns M cc) (g 5) x := hp _ (List.mem_of_getElem? (i := 2) rfl) (List.contains_iff_mem.1 (by kernel_rfl))
        clear hp
        simp only [fillAll, Act.put, List.setIfInBounds_toArray, List.set_cons_zero, List.set_cons_succ]
        (obtain ⟨vv, ev, rv⟩ := p13; refine Wild.free_is (v := vv) ?_ rv; simp [go_sem, execOp, ev])
      · cases ho
        refine ⟨rfl, fun g x hx hp => ?_⟩
        have p13 : (IsAns M cc) (g 5) x := hp _ (List.mem_of_getElem? (i := 2) rfl) (List.contains_iff_mem.1 (by kernel_rfl))
        clear hp
        simp only [fillAll, Act.put, List.setIfInBounds_toArray, List.set_cons_zero, List.set_cons_succ]
        (obtain ⟨vv, ev, rv⟩ := p13; refine Wild.free_op ?_; simp [go_sem, execOp, ev])
      · cases ho
        refine ⟨rfl, fun g x hx hp => ?_⟩
        have p19 : (fun u w => QR w u M) (g 6) x := hp _ (List.mem_of_getElem? (i := 3) rfl) (List.contains_iff_mem.1 (by kernel_rfl))
        clear hp
        simp only [fillAll, Act.put, List.setIfInBounds_toArray, List.set_cons_zero, List.set_cons_succ]
        refine Wild.free_is (v := g 6) ?_ p19; simp [go_sem, execOp]
    case htail =>
      intro g u hst hne
      have b_w3 : AnyLater w2 (later u) := ⟨u, rfl⟩
      generalize later u = w3 at *
      clear u hne
      obtain ⟨p15_w3, -⟩ := hst _ (List.mem_of_getElem? (i := 0) rfl)
      (try dsimp only at p15_w3)
      obtain ⟨p18_w3, -⟩ := hst _ (List.mem_of_getElem? (i := 1) rfl)
      (try dsimp only at p18_w3)
      obtain ⟨p13_w3, -⟩ := hst _ (List.mem_of_getElem? (i := 2) rfl)
      (try dsimp only at p13_w3)
      obtain ⟨p19_w3, -⟩ := hst _ (List.mem_of_getElem? (i := 3) rfl)
      (try dsimp only at p19_w3)
      obtain ⟨p7_w3, -⟩ := hst _ (List.mem_of_getElem? (i := 4) rfl)
      (try dsimp only at p7_w3)
      clear hst
      simp only [fillAll, Act.put, List.setIfInBounds_toArray, List.set_cons_zero, List.set_cons_succ, List.drop_succ_cons, List.drop_zero, List.drop_nil]
      generalize g 1 = v15 at *
      generalize g 4 = v18 at *
      generalize g 5 = v13 at *
      generalize g 6 = v19 at *
      generalize g 8 = v7 at *
      have z_w3 := b_w3.below.size
      have a_w3 := a_w2.trans b_w3
      have s0_w3 := any_own b_w3 s0_w2
      have r0_w3 := own_row s0_w3
      have f0_w3 := own_free s0_w3
      have l0_w3 := own_lt s0_w3
      (try clear r0_w2); (try clear f0_w2)
      have HQ3 := Lib.hid (HQ.out.later b_w3)
      have HP7 := Lib.hid p7_w3
      obtain ⟨A7, c7, rfl, -⟩ := p7_w3.form
      clear p15_w3 p18_w3 p13_w3 p19_w3 p7_w3
      generalize M.length = k at *
      go_wp2_with fail
      refine (HXAdd.out _ _ HQ3.out).mono ?_
      rintro e w4 ⟨u4, rfl, b_w4, q4⟩
      have z_w4 := b_w4.below.size
      have a_w4 := a_w3.trans b_w4
      have s0_w4 := any_own b_w4 s0_w3
      have r0_w4 := own_row s0_w4
      have f0_w4 := own_free s0_w4
      have l0_w4 := own_lt s0_w4
      (try clear r0_w3); (try clear f0_w3)
      have HP9 := Lib.hid q4
      obtain ⟨A9, c9, rfl, -⟩ := q4.form
      clear q4
      generalize M.length = k9 at *
      go_wp2_with fail
      refine (HFew.out _ _ (HQ3.out.later b_w4)).mono ?_
      rintro e w5 ⟨u5, rfl, b_w5, q5⟩
      have z_w5 := b_w5.below.size
      have a_w5 := a_w4.trans b_w5
      have s0_w5 := any_own b_w5 s0_w4
      have r0_w5 := own_row s0_w5
      have f0_w5 := own_free s0_w5
      have l0_w5 := own_lt s0_w5
      (try clear r0_w4); (try clear f0_w4)
      have HP5 := Lib.hid q5
      obtain ⟨A5, c5, rfl, -⟩ := q5.form
      clear q5
      generalize l.length = m5 at *
      go_wp2_with fail
      refine (HGood.out _ _ HP5.out).mono ?_
      rintro e w6 ⟨rfl, b_w6⟩
      have z_w6 := b_w6.below.size
      have a_w6 := a_w5.trans b_w6
      have s0_w6 := any_own b_w6 s0_w5
      have r0_w6 := own_row s0_w6
      have f0_w6 := own_free s0_w6
      have l0_w6 := own_lt s0_w6
      (try clear r0_w5); (try clear f0_w5)
      go_wp2_with fail
      refine (HXGood.out _ _ (HQ3.out.later (b_w4.trans (b_w5.trans b_w6)))).mono ?_
      rintro e w7 ⟨rfl, b_w7⟩
      have z_w7 := b_w7.below.size
      have a_w7 := a_w6.trans b_w7
      have s0_w7 := any_own b_w7 s0_w6
      have r0_w7 := own_row s0_w7
      have f0_w7 := own_free s0_w7
      have l0_w7 := own_lt s0_w7
      (try clear r0_w6); (try clear f0_w6)
      have HB := Lib.hid (b_w5.trans (b_w6.trans b_w7))
      have HB4 := Lib.hid b_w4
      clear b_w4 b_w5 b_w6 b_w7
      go_wp2_with fail
      refine (HSame.out _ _ _ (HP7.out.later (HB4.out.trans HB.out)) (HP9.out.later HB.out)).mono ?_
      rintro e w8 ⟨rfl, b_w8⟩
      have z_w8 := b_w8.below.size
      have a_w8 := a_w7.trans b_w8
      have s0_w8 := any_own b_w8 s0_w7
      have r0_w8 := own_row s0_w8
      have f0_w8 := own_free s0_w8
      have l0_w8 := own_lt s0_w8
      (try clear r0_w7); (try clear f0_w7)
      have HB8 := Lib.hid (HB4.out.trans (HB.out.trans b_w8))
      clear b_w8
      go_wp2_with fail
      first
        | refine (HG2.out _ _ (HP7.out.later HB8.out)).mono ?_
          rintro e w9 ⟨rfl, b_w9⟩
          have z_w9 := b_w9.below.size
          have a_w9 := a_w8.trans b_w9
          have s0_w9 := any_own b_w9 s0_w8
          have r0_w9 := own_row s0_w9
          have f0_w9 := own_free s0_w9
          have l0_w9 := own_lt s0_w9
          (try clear r0_w8); (try clear f0_w8)
          go_wp2_with fail
          refine (flives _).mono ?_
          rintro e w10 ⟨rfl, b_w10⟩
          go_wp2_with fail
          go_ret
          exact ⟨rfl, a_w9.trans b_w10⟩
        | refine (flives _).mono ?_
          rintro e w10 ⟨rfl, b_w10⟩
          go_wp2_with fail
          go_ret
          exact ⟨rfl, a_w8.trans b_w10⟩

/-! ### FoldsDrops -/
def stD (w0 w1 w2 w3 : World) (j : Nat) (_ : Nat → Value) (x : World) : Prop := match j with
  | 0 => x = w0
  | 1 => x = w1
  | 2 => x = w2
  | 3 => x = w3
  | _ => AnyLater w3 x
theorem any_take {p : Int × Int → Bool} {l : Qs} {j i : Nat} (hf : (l.take j).any p = false) (hi : i < j) (h : i < l.length) : p l[i] = false := by
  have := List.any_eq_false.1 hf l[i] (by rw [List.mem_take_iff_getElem]; exact ⟨i, by omega, rfl⟩)
  simpa using this
set_option maxRecDepth 100000 in
set_option maxHeartbeats 3200000 in
theorem foldsDrops_any (W : World) (v0 : Value) (z0 : Qs) (a1 : Int) (r0z : QR W v0 z0) :
    Calls Try.prog 12 #[v0, .int .i64 a1] W fun e W' => e = .returned (.bool true) ∧ AnyLater W W' := by
  generalize W = w at *
  generalize a1 = y
  obtain ⟨l, hl⟩ : ∃ l, z0.take 30 = l := ⟨_, rfl⟩
  have hll : l.length ≤ 30 := by rw [← hl, List.length_take]; omega
  have HFew1 := Lib.hid (fun (w' : World) (a : AnyLater w w') => (ffew_any v0 z0 l w' hl (r0z.later a)).mono fun _ _ q => q.qr)
  have HFew := Lib.hid (fun (x : World) (u : Value) (h : QR x u l) => (ffew_any u l l x (List.take_of_length_le hll) h).mono fun _ _ q => q.qr)
  obtain ⟨A0, c0, rfl, -⟩ := r0z.form
  rcases idxV_cases (hasP y) l with ⟨h1, -⟩ | ⟨-, r, -, lr, hf, hp⟩
  · obtain ⟨e1, e2⟩ := drop_none h1
    have HDrop : Hid (∀ (x : World) (u : Value), QR x u l → Calls Try.prog 60 #[u, .int .i64 y] x fun e w' => ∃ A c, e = .returned (.tuple #[.slice A 0 c, .int .i64 3]) ∧ AnyLater x w') := Lib.hid (fun x u h => (fdrop_any u l y x h (by omega)).mono fun e w' q => by
      obtain ⟨v, h1, h2, h3⟩ := q
      rw [e1] at h1
      rw [e2] at h3
      obtain ⟨A, c, rfl, -⟩ := h3.form
      exact ⟨A, c, h1, h2⟩)
    have HN1 : Hid (∀ (j : Nat) (h : j < l.length), ¬ (l[j].1 ≤ y ∧ y < l[j].2)) := Lib.hid (fun j h q => by
      have := List.any_eq_false.1 h1 l[j] (List.getElem_mem h)
      exact this (decide_eq_true q))
    clear e1 e2 h1 hl r0z
    generalize z0.length = n0 at *
    go_enter Try.func12, Try.ntmps12
    go_wp2_with fail
    refine (HFew1.out _ (AnyLater.refl _)).mono ?_
    rintro e w2 ⟨u0, rfl, b_w2, q2⟩
    have HQ := Lib.hid q2
    have HB2 := Lib.hid b_w2
    obtain ⟨A, cap, rfl, -⟩ := q2.form
    obtain ⟨m, hm⟩ : ∃ m, l.length = m := ⟨_, rfl⟩
    have HN := Lib.hid hm
    rw [hm] at HQ hll ⊢
    clear q2 b_w2 hm
    go_wp2_with fail
    refine (HFew.out _ _ HQ.out).mono ?_
    rintro e w3 ⟨u3, rfl, b_w3, q3⟩
    have HQ3 := Lib.hid q3
    have HB3 := Lib.hid b_w3
    obtain ⟨A3, cap3, rfl, -⟩ := q3.form
    clear q3 b_w3
    rw [HN.out] at HQ3 ⊢
    go_wp2_with fail
    refine (HDrop.out _ _ HQ3.out).mono ?_
    rintro e w4 ⟨A4, c4, rfl, b_w4⟩
    have HQ4 := Lib.hid (HQ.out.later (HB3.out.trans b_w4))
    have HB4 := Lib.hid (HB2.out.trans (HB3.out.trans b_w4))
    have HCC := Lib.hid (fun (j : Nat) (h : j < l.length) => QR.at HQ4.out j h)
    clear b_w4 HQ3 HB2 HB3
    go_wp2_with fail
    go_loopg [7] m (fun k iv wr => ∃ j : Nat, k = m - j ∧ j ≤ m ∧ iv = .int .i64 (j : Int) ∧ AnyLater w4 wr)
    case atStart => exact ⟨0, by omega, by omega, rfl, AnyLater.refl _⟩
    case round =>
      obtain ⟨j, hk, hj, rfl, b_wr⟩ := hrel
      by_cases hlt : j < m
      · have lj : j < l.length := by rw [HN.out]; exact hlt
        have i0 : (j : Int) < (m : Int) := by omega
        obtain ⟨b, off, rfl, hb, k0, k1⟩ := HCC.out j lj
        have c0 : wr.cell? ⟨b, off + j * 2, none⟩ = some (.int .i64 l[j].1) := (b_wr.below.cell hb).trans k0
        have c1 : wr.cell? ⟨b, off + j * 2 + 1, none⟩ = some (.int .i64 l[j].2) := (b_wr.below.cell hb).trans k1
        have hn := HN1.out j lj
        clear k0 k1
        generalize l[j] = x at *
        obtain ⟨f, t⟩ := x
        simp only at c0 c1 hn
        by_cases h1 : f ≤ y
        · have d2 : decide (y < t) = false := decide_eq_false (fun q => hn ⟨h1, q⟩)
          clear hn
          go_wp2_with fail
          go_roundg (m - (j + 1))
          case measure => omega
          case rel => exact ⟨j + 1, rfl, hlt, by go_num, b_wr⟩
        · have d1 : decide (f ≤ y) = false := decide_eq_false h1
          clear hn
          go_wp2_with fail
          go_roundg (m - (j + 1))
          case measure => omega
          case rel => exact ⟨j + 1, rfl, hlt, by go_num, b_wr⟩
      · obtain rfl : j = m := by omega
        have d0 : decide ((j : Int) < (j : Int)) = false := by simp
        go_wp2_with fail
        refine (flives _).mono ?_
        rintro e w10 ⟨rfl, b_w10⟩
        go_wp2_with fail
        go_ret
        exact ⟨rfl, HB4.out.trans (b_wr.trans b_w10)⟩
  · obtain ⟨e1, e2⟩ := drop_at lr hf hp
    have HDrop : Hid (∀ (x : World) (u : Value), QR x u l → Calls Try.prog 60 #[u, .int .i64 y] x fun e w' => ∃ v, e = .returned (.tuple #[v, .int .i64 0]) ∧ AnyLater x w' ∧ QR w' v (l.take r ++ l.drop (r + 1))) := Lib.hid (fun x u h => (fdrop_any u l y x h (by omega)).mono fun e w' q => by
      obtain ⟨v, h1, h2, h3⟩ := q
      rw [e1] at h1
      rw [e2] at h3
      exact ⟨v, h1, h2, h3⟩)
    have HN1 : Hid (∀ (j : Nat) (h : j < l.length), j < r → ¬ (l[j].1 ≤ y ∧ y < l[j].2)) := Lib.hid (fun j h hr q => by
      have := any_take hf hr h
      unfold hasP at this
      exact of_decide_eq_false this q)
    have HN2 : Hid (l[r].1 ≤ y ∧ y < l[r].2) := Lib.hid (of_decide_eq_true hp)
    clear e1 e2 hl r0z hf hp
    generalize z0.length = n0 at *
    go_enter Try.func12, Try.ntmps12
    go_wp2_with fail
    refine (HFew1.out _ (AnyLater.refl _)).mono ?_
    rintro e w2 ⟨u0, rfl, b_w2, q2⟩
    have HQ := Lib.hid q2
    have HB2 := Lib.hid b_w2
    obtain ⟨A, cap, rfl, -⟩ := q2.form
    obtain ⟨m, hm⟩ : ∃ m, l.length = m := ⟨_, rfl⟩
    have HN := Lib.hid hm
    have lr2 : r < m := by omega
    rw [hm] at HQ hll ⊢
    clear q2 b_w2 hm
    go_wp2_with fail
    refine (HFew.out _ _ HQ.out).mono ?_
    rintro e w3 ⟨u3, rfl, b_w3, q3⟩
    have HQ3 := Lib.hid q3
    have HB3 := Lib.hid b_w3
    obtain ⟨A3, cap3, rfl, -⟩ := q3.form
    clear q3 b_w3
    rw [HN.out] at HQ3 ⊢
    go_wp2_with fail
    refine (HDrop.out _ _ HQ3.out).mono ?_
    rintro e w4 ⟨u4, rfl, b_w4, q4⟩
    have HQ4 := Lib.hid (HQ.out.later (HB3.out.trans b_w4))
    have HX4 := Lib.hid q4
    have HB4 := Lib.hid (HB2.out.trans (HB3.out.trans b_w4))
    have HCC := Lib.hid (fun (j : Nat) (h : j < l.length) => QR.at HQ4.out j h)
    obtain ⟨A4, c4, rfl, -⟩ := q4.form
    clear b_w4 HQ3 HB2 HB3 q4
    generalize (l.take r ++ l.drop (r + 1)).length = n4 at *
    go_wp2_with fail
    go_loopg [7] (r + 1) (fun k iv wr => ∃ j : Nat, k = r + 1 - j ∧ j ≤ r ∧ iv = .int .i64 (j : Int) ∧ AnyLater w4 wr)
    case atStart => exact ⟨0, by omega, by omega, rfl, AnyLater.refl _⟩
    case round =>
      obtain ⟨j, hk, hj, rfl, b_wr⟩ := hrel
      have lj : j < l.length := by rw [HN.out]; omega
      have i0 : (j : Int) < (m : Int) := by omega
      obtain ⟨b, off, rfl, hb, k0, k1⟩ := HCC.out j lj
      have c0 : wr.cell? ⟨b, off + j * 2, none⟩ = some (.int .i64 l[j].1) := (b_wr.below.cell hb).trans k0
      have c1 : wr.cell? ⟨b, off + j * 2 + 1, none⟩ = some (.int .i64 l[j].2) := (b_wr.below.cell hb).trans k1
      clear k0 k1
      by_cases hlt : j < r
      · have hn := HN1.out j lj hlt
        generalize l[j] = x at *
        obtain ⟨f, t⟩ := x
        simp only at c0 c1 hn
        by_cases h1 : f ≤ y
        · have d2 : decide (y < t) = false := decide_eq_false (fun q => hn ⟨h1, q⟩)
          clear hn
          go_wp2_with fail
          go_roundg (r + 1 - (j + 1))
          case measure => omega
          case rel => exact ⟨j + 1, rfl, hlt, by go_num, b_wr⟩
        · have d1 : decide (f ≤ y) = false := decide_eq_false h1
          clear hn
          go_wp2_with fail
          go_roundg (r + 1 - (j + 1))
          case measure => omega
          case rel => exact ⟨j + 1, rfl, hlt, by go_num, b_wr⟩
      · obtain rfl : j = r := by omega
        obtain ⟨h1, h2⟩ := HN2.out
        have HQr := Lib.hid (HQ4.out.later b_wr)
        obtain ⟨A1, cap1, p1, k1⟩ := QR.uptoQ pairSpan (v := .slice (some ⟨b, off, none⟩) m cap) HQr.out j (by omega)
        obtain ⟨u2, p2, k2⟩ := QR.cutQ pairSpan (v := .slice (some ⟨b, off, none⟩) m cap) HQr.out (j + 1) (by omega)
        have k2' : ∀ w', (Instr.sliceAt 69 (.slice (some ⟨b, off, none⟩) m cap) (some (.int .i64 ((j : Int) + 1))) none none).run Try.prog w' = .ok u2 w' := k2
        have HS1 := Lib.hid k1
        have HS2 := Lib.hid k2'
        obtain ⟨x0, hx0⟩ : ∃ x0, wr.drew = x0 := ⟨_, rfl⟩
        have b_x0 : AnyLater wr x0 := by rw [← hx0]; exact (AnyLater.refl wr).drew
        obtain ⟨u5, x2, q1, q2, q3⟩ := copyQ pairSpan (p1.later b_x0) (by rw [List.length_take]; omega)
        obtain ⟨A5, cap5, rfl, -⟩ := q3.form
        obtain ⟨u6, x3, q4, q5, q6⟩ := appQ pairSpan q3 (p2.later (b_x0.trans q2)) q2.below.size (by have := HN.out; rw [List.length_take, List.length_drop]; omega)
        have a3 : AnyLater x0 x3 := OQ.grown q3 (Nat.le_refl _) q2 q6
        have K1 := Lib.hid q1
        have K2 := Lib.hid q4
        have KB := Lib.hid (And.intro (HB4.out.trans (b_wr.trans b_x0)) (And.intro q2 a3))
        have HSame := Lib.hid (fun (x : World) (hx : AnyLater x3 x) => qsame_any _ _ _ _ x true (decide_eq_true rfl) (HX4.out.later (b_wr.trans (b_x0.trans (a3.trans hx)))) ((OQ.rq q5).later hx) (by have := HN.out; rw [List.length_append, List.length_take, List.length_drop]; omega))
        obtain ⟨A2, cap2, rfl, -⟩ := p2.form
        obtain ⟨A6, cap6, rfl, -⟩ := q5.form
        clear p1 p2 k1 k2 k2' q1 q2 q3 q4 q5 q6 a3 HDrop HFew HFew1 HCC HQr HQ4
        generalize (l.take j ++ l.drop (j + 1)).length = n6 at *
        generalize (l.take j).length = n5 at *
        generalize (l.drop (j + 1)).length = n2 at *
        generalize l[j] = x at *
        obtain ⟨f, t⟩ := x
        simp only at c0 c1 h1 h2
        go_wp2_with fail
        apply wp_region_chain 20 [(4, .slice (some ⟨x0.heap.size, 0, none⟩) 0 0), (8, .slice A5 n5 cap5), (13, .slice A6 n6 cap6), (14, .bool true), (15, .bool true), (16, .bool true), (17, .bool true)] [] (AnyLater w)
          (stD x0 (x0.alloc (.cells #[] 75)) x2 x3) (by kernel_rfl) (by kernel_rfl) (by kernel_rfl) (by simp) (by kernel_rfl) (by rw [hx0]; exact KB.out.1) (fun _ => hx0)
        case hlex =>
          intro U hU
          have s1 := HS1.out
          have s2 := HS2.out
          simp only [actFrom, actOp, List.lookup, Nat.reduceBEq, Nat.reduceLeDiff, Nat.reduceAdd, if_false, if_true]
          repeat (go_big_quiet_step (fail))
          exact wpQuiet_nil rfl
        case hact =>
          intro i hi o ho
          have hj3 : i = 0 ∨ i = 1 ∨ i = 2 ∨ i = 3 ∨ i = 4 ∨ i = 5 ∨ i = 6 := by simp at hi; omega
          rcases hj3 with rfl | rfl | rfl | rfl | rfl | rfl | rfl
          · cases ho
            refine ⟨rfl, fun gv x hC hS => ?_⟩
            obtain rfl : x = x0 := hS
            exact chain_value (w' := x.alloc (.cells #[] 75)) (by simp [go_sem, execOp]) ⟨hC.alloc _, .inr rfl, rfl⟩
          · cases ho
            refine ⟨rfl, fun gv x hC hS => ?_⟩
            obtain rfl : x = x0.alloc (.cells #[] 75) := hS
            simp only [fillAll, Act.put, List.setIfInBounds_toArray, List.set_cons_zero, List.set_cons_succ]
            exact chain_app _ _ _ _ rfl _ _ rfl rfl K1.out ⟨KB.out.1.trans KB.out.2.1, .inr rfl, rfl⟩
          · cases ho
            refine ⟨rfl, fun gv x hC hS => ?_⟩
            obtain rfl : x = x2 := hS
            simp only [fillAll, Act.put, List.setIfInBounds_toArray, List.set_cons_zero, List.set_cons_succ]
            exact chain_app _ _ _ _ rfl _ _ rfl rfl K2.out ⟨KB.out.1.trans KB.out.2.2, .inr rfl, rfl⟩
          · cases ho
            refine ⟨rfl, fun gv x hC hS => ?_⟩
            obtain rfl : x = x3 := hS
            simp only [fillAll, Act.put, List.setIfInBounds_toArray, List.set_cons_zero, List.set_cons_succ]
            refine chain_go ?_ ((HSame.out x (AnyLater.refl _)).mono fun e w'' ⟨h1, h2⟩ => ⟨_, h1, hC.trans h2, .inr rfl, h2⟩)
            simp [go_sem, execOp]
          · cases ho
            refine ⟨rfl, fun gv x hC hS => ?_⟩
            have hS2 : AnyLater x3 x := hS
            simp only [fillAll, Act.put, List.setIfInBounds_toArray, List.set_cons_zero, List.set_cons_succ]
            exact chain_value (w' := x) (by simp [go_sem, execOp]) ⟨hC, .inr rfl, hS2⟩
          · cases ho
            refine ⟨rfl, fun gv x hC hS => ?_⟩
            have hS2 : AnyLater x3 x := hS
            simp only [fillAll, Act.put, List.setIfInBounds_toArray, List.set_cons_zero, List.set_cons_succ]
            exact chain_value (w' := x) (by simp [go_sem, execOp]) ⟨hC, .inr rfl, hS2⟩
          · cases ho
            refine ⟨rfl, fun gv x hC hS => ?_⟩
            have hS2 : AnyLater x3 x := hS
            simp only [fillAll, Act.put, List.setIfInBounds_toArray, List.set_cons_zero, List.set_cons_succ]
            refine chain_go ?_ ((flives x).mono fun e w'' ⟨h1, h2⟩ => ⟨_, h1, hC.trans h2, .inr rfl, hS2.trans h2⟩)
            simp [go_sem, execOp]
        case htail =>
          intro gz wz hC hS
          have HZ := Lib.hid hC
          clear hC hS c0 c1
          simp only [fillAll, Act.put, List.setIfInBounds_toArray, List.set_cons_zero, List.set_cons_succ, List.drop_succ_cons, List.drop_zero, List.drop_nil]
          go_wp2_with fail
          go_ret
          exact ⟨rfl, HZ.out⟩
end Go.Proofs.Ytiicaldnegcdiaa
