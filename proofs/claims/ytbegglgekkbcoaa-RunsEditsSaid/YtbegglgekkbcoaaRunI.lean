/- runs: RunsSets, walked. -/
import Derived.Test.YtbegglgekkbcoaaRunG
import Derived.Test.YtbegglgekkbcoaaWild
namespace Go.Proofs.Ytbegglgekkbcoaa
set_option linter.unusedSimpArgs false
set_option linter.unusedVariables false
set_option linter.unusedSectionVars false
open Go.RowKit

def IsTwo (m : Runs) (c : Int) (u : Value) (w : World) : Prop := ∃ v, u = .tuple #[v, .int .i64 c] ∧ RRt w v m
theorem IsTwo.later {m : Runs} {c : Int} {u : Value} {w w' : World} (ha : AnyLater w w') (h : IsTwo m c u w) : IsTwo m c u w' := by
  obtain ⟨v, h1, h2⟩ := h
  exact ⟨v, h1, h2.later ha⟩
theorem two_tells {f : FuncId} {args : Array Value} {w : World} {m : Runs} {c : Int} (h : Calls Try.prog f args w (Tells2 w m c)) : Calls Try.prog f args w fun e w' => ∃ u, e = .returned u ∧ AnyLater w w' ∧ IsTwo m c u w' :=
  h.mono fun _ _ ⟨u, h1, h2, h3⟩ => ⟨_, h1, h2, u, rfl, h3⟩
def setN (s : List Int) (f k : Nat) (st : Int) : List Int := s.take f ++ List.replicate k st ++ s.drop (f + k)
theorem setN_zero (s : List Int) (f : Nat) (st : Int) : setN s f 0 st = s := by unfold setN; simp
theorem setN_length {s : List Int} {f k : Nat} {st : Int} (h : f + k ≤ s.length) : (setN s f k st).length = s.length := by
  unfold setN; simp only [List.length_append, List.length_take, List.length_replicate, List.length_drop]; omega
theorem setN_step {s : List Int} {f k : Nat} {st : Int} (h : f + k < s.length) : (setN s f k st).set (f + k) st = setN s f (k + 1) st := by
  have hl : (s.take f ++ List.replicate k st).length = f + k := by rw [List.length_append, List.length_take, List.length_replicate]; omega
  unfold setN
  rw [List.drop_eq_getElem_cons h, List.set_append_right _ _ (by omega), hl, Nat.sub_self, List.set_cons_zero, List.replicate_succ', ← List.append_assoc, List.append_assoc (s.take f ++ List.replicate k st), List.singleton_append, Nat.add_assoc]
theorem setL_eq {s : List Int} {f t : Nat} {st : Int} (h : f ≤ t) : setL s f t st = setN s f (t - f) st := by
  unfold setL setN
  have e1 : ((t : Int) - (f : Int)).toNat = t - f := by omega
  rw [e1, Int.toNat_natCast, Int.toNat_natCast, show f + (t - f) = t by omega]
/-- a place in a row of numbers of the call's own -/
theorem OI.spot {w : World} {B n c i : Nat} {A : Option Addr} {l : List Int} (o : OI w B (.slice A n c) l) (hi : i < l.length) :
    ∃ g y, A = some ⟨g, 0, none⟩ ∧ B ≤ g ∧ g < w.heap.size ∧ w.cell? ⟨g, i, none⟩ = some y ∧ w.frozen? ⟨g, i, none⟩ = false ∧ (∃ cs, w.heap[g]? = some (.cells cs 3)) ∧ ∀ x : Int, OI (w.setCell ⟨g, i, none⟩ (.int .i64 x)) B (.slice A n c) (l.set i x) := by
  have o' := o
  rcases o.2 with ⟨_, h0⟩ | ⟨g, cap, cur, e, h2, h3, h4, h5, h6, h7⟩
  · omega
  · cases e
    have hsz : i < cur.size := by rw [h6]; omega
    refine ⟨g, cur[i], rfl, h2, own_lt h3, by rw [own_row h3]; simp [hsz], own_free h3 _, ⟨cur, h3⟩, fun x => ?_⟩
    have o2 := rown_store (x := .int .i64 x) (i := i) o' (by rw [List.length_map]; exact hi)
    show World.ownsRow _ B 3 1 _ (l.set i x).length ((l.set i x).map (Value.int .i64))
    rw [List.length_set, List.map_set]
    exact o2
theorem setR_len (l : Runs) : ((sR l).length : Int) ≤ 16777216 := by have := sR_len l; omega
set_option maxRecDepth 100000 in
set_option maxHeartbeats 3200000 in
theorem runsSets_any (T : RSays) (w : World) (v : Value) (l0 : Runs) (f t st : Int) (hv : RRn w v l0) (hN : NumsR l0) (hf : I64s f) (ht : I64s t) (hst : I64s st) : Calls Try.prog 4 #[v, .agg #[.int .i64 f, .int .i64 t], .int .i64 st] w fun e w' => e = .returned (.bool true) ∧ AnyLater w w' := by
  obtain ⟨l, hl⟩ : ∃ l, l0.take 60 = l := ⟨_, rfl⟩
  have HFew0 := Lib.hid (fun (w' : World) (h : AnyLater w w') => few_at w' v l0 l hl (hv.later h))
  have hNl : NumsR l := by rw [← hl]; exact hN.take 60
  have hlen : l.length ≤ 60 := by rw [← hl, List.length_take]; omega
  have HLv := Lib.hid (fun w => rlives_any T w)
  clear hv hN hl
  obtain ⟨sm, hc⟩ : ∃ c, smallR l = c := ⟨_, rfl⟩
  have HSm := Lib.hid (fun (w : World) u (h : RRt w u l) => small_any u l w sm hc h.1 hNl (by omega))
  cases sm with
  | false =>
    clear hc T
    go_enter Try.func4, Try.ntmps4
    go_wp2_with fail
    first | refine settle_wp (fun wS => AnyLater w wS ∧ wS.heap[w.heap.size]? = some (.cells #[.int .i64 f, .int .i64 t] 34)) ?_ ?_ | refine settle_calls (fun wS => AnyLater w wS ∧ wS.heap[w.heap.size]? = some (.cells #[.int .i64 f, .int .i64 t] 34)) ?_ ?_
    · refine ⟨?_, ?_⟩
      · repeat' (first | with_reducible assumption | with_reducible exact AnyLater.refl _ | with_reducible apply AnyLater.setCell | with_reducible apply AnyLater.later | with_reducible apply AnyLater.drewN | with_reducible apply AnyLater.drew | with_reducible apply AnyLater.alloc | ((try simp only [World.size_alloc, World.size_setCell, World.size_drew]); (try dsimp only); omega))
      · ((repeat (first | with_reducible assumption | ((with_reducible apply heap_new); (try simp only [World.size_alloc, World.size_setCell, World.size_drew, World.heap_drewN]); done) | ((with_reducible apply heap_new); (try simp only [World.size_alloc, World.size_setCell, World.size_drew, World.heap_drewN]); omega) | (with_reducible refine heap_old (by (try simp only [World.size_alloc, World.size_setCell, World.size_drew, World.heap_drewN]); omega) ?_) | (with_reducible refine heap_drew ?_) | (with_reducible refine heap_far (by omega) ?_) | (with_reducible apply heap_at))); all_goals rfl)
    rintro w1 ⟨b_w1, s0_w1⟩
    have a_w1 := b_w1
    have r0_w1 := own_row s0_w1
    have f0_w1 := own_free s0_w1
    have l0_w1 := own_lt s0_w1
    have z_w1 := b_w1.below.size
    refine (HFew0.out w1 a_w1).mono ?_
    rintro e w2 ⟨u, rfl, b_w2, r2⟩
    have s0_w2 := any_own b_w2 s0_w1
    have HA2 := Lib.hid (a_w1.trans b_w2)
    have HR2 : Hid (∀ w', AnyLater w2 w' → RRt w' u l) := Lib.hid (fun w' h => r2.later h)
    clear r2
    go_wp2_with fail
    refine (HSm.out _ _ (HR2.out _ (AnyLater.refl _))).mono ?_
    rintro e w3 ⟨rfl, b_w3⟩
    have s0_w3 := any_own b_w3 s0_w2
    have HB3 := Lib.hid b_w3
    clear b_w2 b_w3 s0_w1 s0_w2
    go_wp2_with fail
    refine (HLv.out _).mono ?_
    rintro e w4 ⟨rfl, b4⟩
    have HA4 := Lib.hid (HA2.out.trans (HB3.out.trans b4))
    clear b4
    go_wp2_with fail
    go_ret
    exact ⟨rfl, HA4.out⟩
  | true =>
    have h4 := small_len hc
    have hS : sR l = stylesR l := sR_small (by omega)
    have hA : ∀ {w : World} {u : Value}, RRt w u l → Asks w u l := fun h => ⟨h, hNl, by omega⟩
    have HSt := Lib.hid (fun (w : World) u (h : RRt w u l) => styles_any u l w h.1 hNl (by omega) h4)
    have HFw := Lib.hid (fun (w : World) u (h : RRt w u l) => few_again (w := w) (v := u) hlen h)
    have HGd := Lib.hid (fun (w : World) => refGoodS_any st w _ rfl hst)
    obtain ⟨M, c, hMc⟩ : ∃ M c, setR l f t st = (M, c) := ⟨_, _, rfl⟩
    have HSet := Lib.hid (fun (w : World) u (h : RRt w u l) => T.set (w := w) (v := u) l M f t st c hMc (hA h) hf ht hst)
    unfold setR at hMc
    rw [hS] at hMc
    obtain ⟨s, hs⟩ : ∃ s, stylesR l = s := ⟨_, rfl⟩
    rw [hs] at HSt h4 hMc
    obtain ⟨n, hn⟩ : ∃ n, s.length = n := ⟨_, rfl⟩
    have HN := Lib.hid hn
    rw [hn] at h4 hMc
    obtain ⟨f1, f2⟩ := hf
    obtain ⟨t1, t2⟩ := ht
    obtain ⟨st1, st2⟩ := hst
    clear T hc hS hA hs hn hNl hlen
    by_cases hout : f < 0 ∨ t < f ∨ (n : Int) < t
    · rw [if_pos hout] at hMc
      obtain ⟨rfl, rfl⟩ : [] = M ∧ 1 = c := ⟨(Prod.mk.inj hMc).1, (Prod.mk.inj hMc).2⟩
      clear hMc
      have hcase : f < 0 ∨ (0 ≤ f ∧ t < f) ∨ (0 ≤ f ∧ f ≤ t ∧ (n : Int) < t) := by omega
      clear hout
      rcases hcase with h | ⟨h, h'⟩ | ⟨h, h', h''⟩
      all_goals (try have d1 : decide (f < 0) = false := decide_eq_false (by omega))
      all_goals (try have d2 : decide (t < f) = false := decide_eq_false (by omega))
      all_goals
        go_enter Try.func4, Try.ntmps4
        go_wp2_with fail
        first | refine settle_wp (fun wS => AnyLater w wS ∧ wS.heap[w.heap.size]? = some (.cells #[.int .i64 f, .int .i64 t] 34)) ?_ ?_ | refine settle_calls (fun wS => AnyLater w wS ∧ wS.heap[w.heap.size]? = some (.cells #[.int .i64 f, .int .i64 t] 34)) ?_ ?_
        · refine ⟨?_, ?_⟩
          · repeat' (first | with_reducible assumption | with_reducible exact AnyLater.refl _ | with_reducible apply AnyLater.setCell | with_reducible apply AnyLater.later | with_reducible apply AnyLater.drewN | with_reducible apply AnyLater.drew | with_reducible apply AnyLater.alloc | ((try simp only [World.size_alloc, World.size_setCell, World.size_drew]); (try dsimp only); omega))
          · ((repeat (first | with_reducible assumption | ((with_reducible apply heap_new); (try simp only [World.size_alloc, World.size_setCell, World.size_drew, World.heap_drewN]); done) | ((with_reducible apply heap_new); (try simp only [World.size_alloc, World.size_setCell, World.size_drew, World.heap_drewN]); omega) | (with_reducible refine heap_old (by (try simp only [World.size_alloc, World.size_setCell, World.size_drew, World.heap_drewN]); omega) ?_) | (with_reducible refine heap_drew ?_) | (with_reducible refine heap_far (by omega) ?_) | (with_reducible apply heap_at))); all_goals rfl)
        rintro w1 ⟨b_w1, s0_w1⟩
        have a_w1 := b_w1
        have r0_w1 := own_row s0_w1
        have f0_w1 := own_free s0_w1
        have l0_w1 := own_lt s0_w1
        have z_w1 := b_w1.below.size
        refine (HFew0.out w1 a_w1).mono ?_
        rintro e w2 ⟨u, rfl, b_w2, r2⟩
        have s0_w2 := any_own b_w2 s0_w1
        have HA2 := Lib.hid (a_w1.trans b_w2)
        have HR2 : Hid (∀ w', AnyLater w2 w' → RRt w' u l) := Lib.hid (fun w' h => r2.later h)
        clear r2
        go_wp2_with fail
        refine (HSm.out _ _ (HR2.out _ (AnyLater.refl _))).mono ?_
        rintro e w3 ⟨rfl, b_w3⟩
        have s0_w3 := any_own b_w3 s0_w2
        have HB3 := Lib.hid b_w3
        go_wp2_with fail
        refine (HSt.out _ _ (HR2.out _ HB3.out)).mono ?_
        rintro e w4 ⟨v7, rfl, b_w4, o4⟩
        have s0_w4 := any_own b_w4 s0_w3
        have HB4 := Lib.hid (HB3.out.trans b_w4)
        have HB43 := Lib.hid b_w4
        have HC3 : Hid (w3.cell? ⟨w.heap.size, 1, none⟩ = some (.int .i64 t)) := Lib.hid (by rw [own_row s0_w3]; rfl)
        have HZ4 : Hid (w.heap.size < w3.heap.size) := Lib.hid (own_lt s0_w3)
        have HO4 := Lib.hid o4
        obtain ⟨A7, c7, rfl, k7⟩ := o4.form
        rw [HN.out] at k7 HO4 ⊢
        have c0 : w4.cell? ⟨w.heap.size, 0, none⟩ = some (.int .i64 f) := by rw [own_row s0_w4]; rfl
        have c1 : w4.cell? ⟨w.heap.size, 1, none⟩ = some (.int .i64 t) := by rw [own_row s0_w4]; rfl
        have HFw4 : Hid (∀ w', AnyLater w4 w' → Calls Try.prog 8 #[u] w' fun e w'' => ∃ u, e = .returned u ∧ AnyLater w' w'' ∧ RRt w'' u l) := Lib.hid (fun w' h => HFw.out _ _ (HR2.out _ (HB4.out.trans h)))
        have a_w4 := AnyLater.refl w4
        clear b_w2 b_w3 b_w4 s0_w1 s0_w2 s0_w3 o4
        go_wp2_with fail
        apply Wild.wp_region_free (13) [⟨1, 21, undef, true, fun u x => RRt x u l⟩, ⟨7, 27, undef, true, IsTwo ([] : Runs) 1⟩, ⟨8, 19, undef, true, IsTwo ([] : Runs) 1⟩, ⟨9, 28, undef, true, fun u x => RRt x u []⟩, ⟨10, 29, .int .i64 1, false, fun v _ => v = .int .i64 1⟩, ⟨11, 8, undef, true, fun u x => RRt x u []⟩] [⟨1, 21, fun u x => RRt x u l⟩, ⟨7, 27, IsTwo ([] : Runs) 1⟩, ⟨8, 19, IsTwo ([] : Runs) 1⟩, ⟨9, 28, fun u x => RRt x u []⟩, ⟨11, 8, fun u x => RRt x u []⟩] rfl (by kernel_rfl) (by kernel_rfl) (by kernel_rfl) (by simp) (by kernel_rfl)
        case hstab =>
          intro c hc
          simp only [List.mem_cons, List.not_mem_nil, or_false] at hc
          rcases hc with rfl | rfl | rfl | rfl | rfl | rfl
          · intro v x y hxy hv; exact (fun h k => RRt.later k h) hxy hv
          · intro v x y hxy hv; exact (fun h k => IsTwo.later h k) hxy hv
          · intro v x y hxy hv; exact (fun h k => IsTwo.later h k) hxy hv
          · intro v x y hxy hv; exact (fun h k => RRt.later k h) hxy hv
          · intro v x y hxy hv; exact hv
          · intro v x y hxy hv; exact (fun h k => RRt.later k h) hxy hv
        case hfix =>
          intro c hc
          simp only [List.mem_cons, List.not_mem_nil, or_false] at hc
          rcases hc with rfl | rfl | rfl | rfl | rfl | rfl
          · exact .inl rfl
          · exact .inl rfl
          · exact .inl rfl
          · exact .inl rfl
          · exact .inr fun u x h => h
          · exact .inl rfl
        case hlex =>
          intro U hU
          have q_c0 := cell_on hU c0
          have q_c1 := cell_on hU c1
          simp only [List.map_cons, List.map_nil, CA.act, actFrom, actOp, List.lookup, Nat.reduceBEq, Nat.reduceLeDiff, Nat.reduceAdd, if_false, if_true]
          repeat (go_big_quiet_step (fail))
          exact wpQuiet_nil rfl
        case hstep =>
          intro j hj o ho
          have hj2 : j = 0 ∨ j = 1 ∨ j = 2 ∨ j = 3 ∨ j = 4 ∨ j = 5 := by simp at hj; omega
          rcases hj2 with rfl | rfl | rfl | rfl | rfl | rfl
          · cases ho
            refine ⟨rfl, fun g x hx hp => ?_⟩
            clear hp
            simp only [fillAll, Act.put, List.setIfInBounds_toArray, List.set_cons_zero, List.set_cons_succ]
            refine chain_go ?_ (Wild.free_tells (HFw4.out x hx))
            simp [go_sem, execOp]
          · cases ho
            refine ⟨rfl, fun g x hx hp => ?_⟩
            have p21 : (fun u x => RRt x u l) (g 1) x := hp _ (List.mem_of_getElem? (i := 0) rfl) (List.contains_iff_mem.1 (by kernel_rfl))
            clear hp
            simp only [fillAll, Act.put, List.setIfInBounds_toArray, List.set_cons_zero, List.set_cons_succ]
            refine chain_go ?_ (Wild.free_tells (two_tells (HSet.out x _ p21)))
            simp [go_sem, execOp]
          · cases ho
            refine ⟨rfl, fun g x hx hp => ?_⟩
            have p27 : (IsTwo ([] : Runs) 1) (g 7) x := hp _ (List.mem_of_getElem? (i := 1) rfl) (List.contains_iff_mem.1 (by kernel_rfl))
            clear hp
            simp only [fillAll, Act.put, List.setIfInBounds_toArray, List.set_cons_zero, List.set_cons_succ]
            refine Wild.free_is (v := g 7) ?_ p27; simp [go_sem, execOp]
          · cases ho
            refine ⟨rfl, fun g x hx hp => ?_⟩
            have p19 : (IsTwo ([] : Runs) 1) (g 8) x := hp _ (List.mem_of_getElem? (i := 2) rfl) (List.contains_iff_mem.1 (by kernel_rfl))
            clear hp
            simp only [fillAll, Act.put, List.setIfInBounds_toArray, List.set_cons_zero, List.set_cons_succ]
            (obtain ⟨vv, ev, rv⟩ := p19; refine Wild.free_is (v := vv) ?_ rv; simp [go_sem, execOp, ev])
          · cases ho
            refine ⟨rfl, fun g x hx hp => ?_⟩
            have p19 : (IsTwo ([] : Runs) 1) (g 8) x := hp _ (List.mem_of_getElem? (i := 2) rfl) (List.contains_iff_mem.1 (by kernel_rfl))
            clear hp
            simp only [fillAll, Act.put, List.setIfInBounds_toArray, List.set_cons_zero, List.set_cons_succ]
            (obtain ⟨vv, ev, rv⟩ := p19; refine Wild.free_op ?_; simp [go_sem, execOp, ev])
          · cases ho
            refine ⟨rfl, fun g x hx hp => ?_⟩
            have p28 : (fun u x => RRt x u []) (g 9) x := hp _ (List.mem_of_getElem? (i := 3) rfl) (List.contains_iff_mem.1 (by kernel_rfl))
            clear hp
            simp only [fillAll, Act.put, List.setIfInBounds_toArray, List.set_cons_zero, List.set_cons_succ]
            refine Wild.free_is (v := g 9) ?_ p28; simp [go_sem, execOp]
        case htail =>
          intro g u hst hne
          have b_w5 : AnyLater w4 (later u) := ⟨u, rfl⟩
          generalize later u = w5 at *
          clear u hne
          obtain ⟨p21_w5, -⟩ := hst _ (List.mem_of_getElem? (i := 0) rfl)
          (try dsimp only at p21_w5)
          obtain ⟨p27_w5, -⟩ := hst _ (List.mem_of_getElem? (i := 1) rfl)
          (try dsimp only at p27_w5)
          obtain ⟨p19_w5, -⟩ := hst _ (List.mem_of_getElem? (i := 2) rfl)
          (try dsimp only at p19_w5)
          obtain ⟨p28_w5, -⟩ := hst _ (List.mem_of_getElem? (i := 3) rfl)
          (try dsimp only at p28_w5)
          obtain ⟨p8_w5, -⟩ := hst _ (List.mem_of_getElem? (i := 4) rfl)
          (try dsimp only at p8_w5)
          clear hst
          simp only [fillAll, Act.put, List.setIfInBounds_toArray, List.set_cons_zero, List.set_cons_succ, List.drop_succ_cons, List.drop_zero, List.drop_nil]
          generalize g 1 = v21 at *
          generalize g 7 = v27 at *
          generalize g 8 = v19 at *
          generalize g 9 = v28 at *
          generalize g 11 = v8 at *
          have z_w5 := b_w5.below.size
          have a_w5 := a_w4.trans b_w5
          have c0_w5 := cell_on b_w5 c0
          have c1_w5 := cell_on b_w5 c1
          have r8 := p8_w5
          have HR8 : Hid (∀ w', AnyLater w5 w' → RRt w' v8 []) := Lib.hid (fun w' h => r8.later h)
          have HB5 := Lib.hid b_w5
          clear p21_w5 p27_w5 p19_w5 p28_w5 p8_w5 b_w5 c0 c1
          obtain ⟨A8, c8, rfl, _⟩ := r8.1
          simp only [List.length_nil] at *
          go_wp2_with fail
          refine (HLv.out _).mono ?_
          rintro e w6 ⟨rfl, b6⟩
          have HA6 := Lib.hid (HA2.out.trans (HB4.out.trans (HB5.out.trans b6)))
          clear b6
          go_wp2_with fail
          go_ret
          exact ⟨rfl, HA6.out⟩
    · rw [if_neg hout] at hMc
      have q1 : 0 ≤ f := by omega
      have q2 : f ≤ t := by omega
      have q3 : t ≤ n := by omega
      have d1 : decide (f < 0) = false := decide_eq_false (by omega)
      have d2 : decide (t < f) = false := decide_eq_false (by omega)
      have d3 : decide ((n : Int) < t) = false := decide_eq_false (by omega)
      clear hout
      cases hg : goodS st with
      | false =>
        rw [hg, if_neg (by decide)] at hMc
        obtain ⟨rfl, rfl⟩ : [] = M ∧ 5 = c := ⟨(Prod.mk.inj hMc).1, (Prod.mk.inj hMc).2⟩
        rw [hg] at HGd
        clear hMc hg
        go_enter Try.func4, Try.ntmps4
        go_wp2_with fail
        first | refine settle_wp (fun wS => AnyLater w wS ∧ wS.heap[w.heap.size]? = some (.cells #[.int .i64 f, .int .i64 t] 34)) ?_ ?_ | refine settle_calls (fun wS => AnyLater w wS ∧ wS.heap[w.heap.size]? = some (.cells #[.int .i64 f, .int .i64 t] 34)) ?_ ?_
        · refine ⟨?_, ?_⟩
          · repeat' (first | with_reducible assumption | with_reducible exact AnyLater.refl _ | with_reducible apply AnyLater.setCell | with_reducible apply AnyLater.later | with_reducible apply AnyLater.drewN | with_reducible apply AnyLater.drew | with_reducible apply AnyLater.alloc | ((try simp only [World.size_alloc, World.size_setCell, World.size_drew]); (try dsimp only); omega))
          · ((repeat (first | with_reducible assumption | ((with_reducible apply heap_new); (try simp only [World.size_alloc, World.size_setCell, World.size_drew, World.heap_drewN]); done) | ((with_reducible apply heap_new); (try simp only [World.size_alloc, World.size_setCell, World.size_drew, World.heap_drewN]); omega) | (with_reducible refine heap_old (by (try simp only [World.size_alloc, World.size_setCell, World.size_drew, World.heap_drewN]); omega) ?_) | (with_reducible refine heap_drew ?_) | (with_reducible refine heap_far (by omega) ?_) | (with_reducible apply heap_at))); all_goals rfl)
        rintro w1 ⟨b_w1, s0_w1⟩
        have a_w1 := b_w1
        have r0_w1 := own_row s0_w1
        have f0_w1 := own_free s0_w1
        have l0_w1 := own_lt s0_w1
        have z_w1 := b_w1.below.size
        refine (HFew0.out w1 a_w1).mono ?_
        rintro e w2 ⟨u, rfl, b_w2, r2⟩
        have s0_w2 := any_own b_w2 s0_w1
        have HA2 := Lib.hid (a_w1.trans b_w2)
        have HR2 : Hid (∀ w', AnyLater w2 w' → RRt w' u l) := Lib.hid (fun w' h => r2.later h)
        clear r2
        go_wp2_with fail
        refine (HSm.out _ _ (HR2.out _ (AnyLater.refl _))).mono ?_
        rintro e w3 ⟨rfl, b_w3⟩
        have s0_w3 := any_own b_w3 s0_w2
        have HB3 := Lib.hid b_w3
        go_wp2_with fail
        refine (HSt.out _ _ (HR2.out _ HB3.out)).mono ?_
        rintro e w4 ⟨v7, rfl, b_w4, o4⟩
        have s0_w4 := any_own b_w4 s0_w3
        have HB4 := Lib.hid (HB3.out.trans b_w4)
        have HB43 := Lib.hid b_w4
        have HC3 : Hid (w3.cell? ⟨w.heap.size, 1, none⟩ = some (.int .i64 t)) := Lib.hid (by rw [own_row s0_w3]; rfl)
        have HZ4 : Hid (w.heap.size < w3.heap.size) := Lib.hid (own_lt s0_w3)
        have HO4 := Lib.hid o4
        obtain ⟨A7, c7, rfl, k7⟩ := o4.form
        rw [HN.out] at k7 HO4 ⊢
        have c0 : w4.cell? ⟨w.heap.size, 0, none⟩ = some (.int .i64 f) := by rw [own_row s0_w4]; rfl
        have c1 : w4.cell? ⟨w.heap.size, 1, none⟩ = some (.int .i64 t) := by rw [own_row s0_w4]; rfl
        have HFw4 : Hid (∀ w', AnyLater w4 w' → Calls Try.prog 8 #[u] w' fun e w'' => ∃ u, e = .returned u ∧ AnyLater w' w'' ∧ RRt w'' u l) := Lib.hid (fun w' h => HFw.out _ _ (HR2.out _ (HB4.out.trans h)))
        have a_w4 := AnyLater.refl w4
        clear b_w2 b_w3 b_w4 s0_w1 s0_w2 s0_w3 o4
        go_wp2_with fail
        apply Wild.wp_region_free (13) [⟨1, 21, undef, true, fun u x => RRt x u l⟩, ⟨7, 27, undef, true, IsTwo ([] : Runs) 5⟩, ⟨8, 19, undef, true, IsTwo ([] : Runs) 5⟩, ⟨9, 28, undef, true, fun u x => RRt x u []⟩, ⟨10, 29, .int .i64 5, false, fun v _ => v = .int .i64 5⟩, ⟨11, 8, undef, true, fun u x => RRt x u []⟩] [⟨1, 21, fun u x => RRt x u l⟩, ⟨7, 27, IsTwo ([] : Runs) 5⟩, ⟨8, 19, IsTwo ([] : Runs) 5⟩, ⟨9, 28, fun u x => RRt x u []⟩, ⟨11, 8, fun u x => RRt x u []⟩] rfl (by kernel_rfl) (by kernel_rfl) (by kernel_rfl) (by simp) (by kernel_rfl)
        case hstab =>
          intro c hc
          simp only [List.mem_cons, List.not_mem_nil, or_false] at hc
          rcases hc with rfl | rfl | rfl | rfl | rfl | rfl
          · intro v x y hxy hv; exact (fun h k => RRt.later k h) hxy hv
          · intro v x y hxy hv; exact (fun h k => IsTwo.later h k) hxy hv
          · intro v x y hxy hv; exact (fun h k => IsTwo.later h k) hxy hv
          · intro v x y hxy hv; exact (fun h k => RRt.later k h) hxy hv
          · intro v x y hxy hv; exact hv
          · intro v x y hxy hv; exact (fun h k => RRt.later k h) hxy hv
        case hfix =>
          intro c hc
          simp only [List.mem_cons, List.not_mem_nil, or_false] at hc
          rcases hc with rfl | rfl | rfl | rfl | rfl | rfl
          · exact .inl rfl
          · exact .inl rfl
          · exact .inl rfl
          · exact .inl rfl
          · exact .inr fun u x h => h
          · exact .inl rfl
        case hlex =>
          intro U hU
          have q_c0 := cell_on hU c0
          have q_c1 := cell_on hU c1
          simp only [List.map_cons, List.map_nil, CA.act, actFrom, actOp, List.lookup, Nat.reduceBEq, Nat.reduceLeDiff, Nat.reduceAdd, if_false, if_true]
          repeat (go_big_quiet_step (fail))
          exact wpQuiet_nil rfl
        case hstep =>
          intro j hj o ho
          have hj2 : j = 0 ∨ j = 1 ∨ j = 2 ∨ j = 3 ∨ j = 4 ∨ j = 5 := by simp at hj; omega
          rcases hj2 with rfl | rfl | rfl | rfl | rfl | rfl
          · cases ho
            refine ⟨rfl, fun g x hx hp => ?_⟩
            clear hp
            simp only [fillAll, Act.put, List.setIfInBounds_toArray, List.set_cons_zero, List.set_cons_succ]
            refine chain_go ?_ (Wild.free_tells (HFw4.out x hx))
            simp [go_sem, execOp]
          · cases ho
            refine ⟨rfl, fun g x hx hp => ?_⟩
            have p21 : (fun u x => RRt x u l) (g 1) x := hp _ (List.mem_of_getElem? (i := 0) rfl) (List.contains_iff_mem.1 (by kernel_rfl))
            clear hp
            simp only [fillAll, Act.put, List.setIfInBounds_toArray, List.set_cons_zero, List.set_cons_succ]
            refine chain_go ?_ (Wild.free_tells (two_tells (HSet.out x _ p21)))
            simp [go_sem, execOp]
          · cases ho
            refine ⟨rfl, fun g x hx hp => ?_⟩
            have p27 : (IsTwo ([] : Runs) 5) (g 7) x := hp _ (List.mem_of_getElem? (i := 1) rfl) (List.contains_iff_mem.1 (by kernel_rfl))
            clear hp
            simp only [fillAll, Act.put, List.setIfInBounds_toArray, List.set_cons_zero, List.set_cons_succ]
            refine Wild.free_is (v := g 7) ?_ p27; simp [go_sem, execOp]
          · cases ho
            refine ⟨rfl, fun g x hx hp => ?_⟩
            have p19 : (IsTwo ([] : Runs) 5) (g 8) x := hp _ (List.mem_of_getElem? (i := 2) rfl) (List.contains_iff_mem.1 (by kernel_rfl))
            clear hp
            simp only [fillAll, Act.put, List.setIfInBounds_toArray, List.set_cons_zero, List.set_cons_succ]
            (obtain ⟨vv, ev, rv⟩ := p19; refine Wild.free_is (v := vv) ?_ rv; simp [go_sem, execOp, ev])
          · cases ho
            refine ⟨rfl, fun g x hx hp => ?_⟩
            have p19 : (IsTwo ([] : Runs) 5) (g 8) x := hp _ (List.mem_of_getElem? (i := 2) rfl) (List.contains_iff_mem.1 (by kernel_rfl))
            clear hp
            simp only [fillAll, Act.put, List.setIfInBounds_toArray, List.set_cons_zero, List.set_cons_succ]
            (obtain ⟨vv, ev, rv⟩ := p19; refine Wild.free_op ?_; simp [go_sem, execOp, ev])
          · cases ho
            refine ⟨rfl, fun g x hx hp => ?_⟩
            have p28 : (fun u x => RRt x u []) (g 9) x := hp _ (List.mem_of_getElem? (i := 3) rfl) (List.contains_iff_mem.1 (by kernel_rfl))
            clear hp
            simp only [fillAll, Act.put, List.setIfInBounds_toArray, List.set_cons_zero, List.set_cons_succ]
            refine Wild.free_is (v := g 9) ?_ p28; simp [go_sem, execOp]
        case htail =>
          intro g u hst hne
          have b_w5 : AnyLater w4 (later u) := ⟨u, rfl⟩
          generalize later u = w5 at *
          clear u hne
          obtain ⟨p21_w5, -⟩ := hst _ (List.mem_of_getElem? (i := 0) rfl)
          (try dsimp only at p21_w5)
          obtain ⟨p27_w5, -⟩ := hst _ (List.mem_of_getElem? (i := 1) rfl)
          (try dsimp only at p27_w5)
          obtain ⟨p19_w5, -⟩ := hst _ (List.mem_of_getElem? (i := 2) rfl)
          (try dsimp only at p19_w5)
          obtain ⟨p28_w5, -⟩ := hst _ (List.mem_of_getElem? (i := 3) rfl)
          (try dsimp only at p28_w5)
          obtain ⟨p8_w5, -⟩ := hst _ (List.mem_of_getElem? (i := 4) rfl)
          (try dsimp only at p8_w5)
          clear hst
          simp only [fillAll, Act.put, List.setIfInBounds_toArray, List.set_cons_zero, List.set_cons_succ, List.drop_succ_cons, List.drop_zero, List.drop_nil]
          generalize g 1 = v21 at *
          generalize g 7 = v27 at *
          generalize g 8 = v19 at *
          generalize g 9 = v28 at *
          generalize g 11 = v8 at *
          have z_w5 := b_w5.below.size
          have a_w5 := a_w4.trans b_w5
          have c0_w5 := cell_on b_w5 c0
          have c1_w5 := cell_on b_w5 c1
          have r8 := p8_w5
          have HR8 : Hid (∀ w', AnyLater w5 w' → RRt w' v8 []) := Lib.hid (fun w' h => r8.later h)
          have HB5 := Lib.hid b_w5
          clear p21_w5 p27_w5 p19_w5 p28_w5 p8_w5 b_w5 c0 c1
          obtain ⟨A8, c8, rfl, _⟩ := r8.1
          simp only [List.length_nil] at *
          go_wp2_with fail
          refine (HGd.out _).mono ?_
          rintro e w6 ⟨rfl, rfl⟩
          go_wp2_with fail
          refine (HLv.out _).mono ?_
          rintro e w7 ⟨rfl, b6⟩
          have HA6 := Lib.hid (HA2.out.trans (HB4.out.trans (HB5.out.trans b6)))
          clear b6
          go_wp2_with fail
          go_ret
          exact ⟨rfl, HA6.out⟩
      | true =>
        rw [hg, if_pos rfl] at hMc
        obtain ⟨hM, rfl⟩ : ofR (setL s f t st) = M ∧ 0 = c := ⟨(Prod.mk.inj hMc).1, (Prod.mk.inj hMc).2⟩
        rw [hg] at HGd
        have HM := Lib.hid hM
        clear hMc hg hM
        go_enter Try.func4, Try.ntmps4
        go_wp2_with fail
        first | refine settle_wp (fun wS => AnyLater w wS ∧ wS.heap[w.heap.size]? = some (.cells #[.int .i64 f, .int .i64 t] 34)) ?_ ?_ | refine settle_calls (fun wS => AnyLater w wS ∧ wS.heap[w.heap.size]? = some (.cells #[.int .i64 f, .int .i64 t] 34)) ?_ ?_
        · refine ⟨?_, ?_⟩
          · repeat' (first | with_reducible assumption | with_reducible exact AnyLater.refl _ | with_reducible apply AnyLater.setCell | with_reducible apply AnyLater.later | with_reducible apply AnyLater.drewN | with_reducible apply AnyLater.drew | with_reducible apply AnyLater.alloc | ((try simp only [World.size_alloc, World.size_setCell, World.size_drew]); (try dsimp only); omega))
          · ((repeat (first | with_reducible assumption | ((with_reducible apply heap_new); (try simp only [World.size_alloc, World.size_setCell, World.size_drew, World.heap_drewN]); done) | ((with_reducible apply heap_new); (try simp only [World.size_alloc, World.size_setCell, World.size_drew, World.heap_drewN]); omega) | (with_reducible refine heap_old (by (try simp only [World.size_alloc, World.size_setCell, World.size_drew, World.heap_drewN]); omega) ?_) | (with_reducible refine heap_drew ?_) | (with_reducible refine heap_far (by omega) ?_) | (with_reducible apply heap_at))); all_goals rfl)
        rintro w1 ⟨b_w1, s0_w1⟩
        have a_w1 := b_w1
        have r0_w1 := own_row s0_w1
        have f0_w1 := own_free s0_w1
        have l0_w1 := own_lt s0_w1
        have z_w1 := b_w1.below.size
        refine (HFew0.out w1 a_w1).mono ?_
        rintro e w2 ⟨u, rfl, b_w2, r2⟩
        have s0_w2 := any_own b_w2 s0_w1
        have HA2 := Lib.hid (a_w1.trans b_w2)
        have HR2 : Hid (∀ w', AnyLater w2 w' → RRt w' u l) := Lib.hid (fun w' h => r2.later h)
        clear r2
        go_wp2_with fail
        refine (HSm.out _ _ (HR2.out _ (AnyLater.refl _))).mono ?_
        rintro e w3 ⟨rfl, b_w3⟩
        have s0_w3 := any_own b_w3 s0_w2
        have HB3 := Lib.hid b_w3
        go_wp2_with fail
        refine (HSt.out _ _ (HR2.out _ HB3.out)).mono ?_
        rintro e w4 ⟨v7, rfl, b_w4, o4⟩
        have s0_w4 := any_own b_w4 s0_w3
        have HB4 := Lib.hid (HB3.out.trans b_w4)
        have HB43 := Lib.hid b_w4
        have HC3 : Hid (w3.cell? ⟨w.heap.size, 1, none⟩ = some (.int .i64 t)) := Lib.hid (by rw [own_row s0_w3]; rfl)
        have HZ4 : Hid (w.heap.size < w3.heap.size) := Lib.hid (own_lt s0_w3)
        have HO4 := Lib.hid o4
        obtain ⟨A7, c7, rfl, k7⟩ := o4.form
        rw [HN.out] at k7 HO4 ⊢
        have c0 : w4.cell? ⟨w.heap.size, 0, none⟩ = some (.int .i64 f) := by rw [own_row s0_w4]; rfl
        have c1 : w4.cell? ⟨w.heap.size, 1, none⟩ = some (.int .i64 t) := by rw [own_row s0_w4]; rfl
        have HFw4 : Hid (∀ w', AnyLater w4 w' → Calls Try.prog 8 #[u] w' fun e w'' => ∃ u, e = .returned u ∧ AnyLater w' w'' ∧ RRt w'' u l) := Lib.hid (fun w' h => HFw.out _ _ (HR2.out _ (HB4.out.trans h)))
        have a_w4 := AnyLater.refl w4
        clear b_w2 b_w3 b_w4 s0_w1 s0_w2 s0_w3 o4
        go_wp2_with fail
        apply Wild.wp_region_free (13) [⟨1, 21, undef, true, fun u x => RRt x u l⟩, ⟨7, 27, undef, true, IsTwo M 0⟩, ⟨8, 19, undef, true, IsTwo M 0⟩, ⟨9, 28, undef, true, fun u x => RRt x u M⟩, ⟨10, 29, .int .i64 0, false, fun v _ => v = .int .i64 0⟩, ⟨11, 8, undef, true, fun u x => RRt x u M⟩] [⟨1, 21, fun u x => RRt x u l⟩, ⟨7, 27, IsTwo M 0⟩, ⟨8, 19, IsTwo M 0⟩, ⟨9, 28, fun u x => RRt x u M⟩, ⟨11, 8, fun u x => RRt x u M⟩] rfl (by kernel_rfl) (by kernel_rfl) (by kernel_rfl) (by simp) (by kernel_rfl)
        case hstab =>
          intro c hc
          simp only [List.mem_cons, List.not_mem_nil, or_false] at hc
          rcases hc with rfl | rfl | rfl | rfl | rfl | rfl
          · intro v x y hxy hv; exact (fun h k => RRt.later k h) hxy hv
          · intro v x y hxy hv; exact (fun h k => IsTwo.later h k) hxy hv
          · intro v x y hxy hv; exact (fun h k => IsTwo.later h k) hxy hv
          · intro v x y hxy hv; exact (fun h k => RRt.later k h) hxy hv
          · intro v x y hxy hv; exact hv
          · intro v x y hxy hv; exact (fun h k => RRt.later k h) hxy hv
        case hfix =>
          intro c hc
          simp only [List.mem_cons, List.not_mem_nil, or_false] at hc
          rcases hc with rfl | rfl | rfl | rfl | rfl | rfl
          · exact .inl rfl
          · exact .inl rfl
          · exact .inl rfl
          · exact .inl rfl
          · exact .inr fun u x h => h
          · exact .inl rfl
        case hlex =>
          intro U hU
          have q_c0 := cell_on hU c0
          have q_c1 := cell_on hU c1
          simp only [List.map_cons, List.map_nil, CA.act, actFrom, actOp, List.lookup, Nat.reduceBEq, Nat.reduceLeDiff, Nat.reduceAdd, if_false, if_true]
          repeat (go_big_quiet_step (fail))
          exact wpQuiet_nil rfl
        case hstep =>
          intro j hj o ho
          have hj2 : j = 0 ∨ j = 1 ∨ j = 2 ∨ j = 3 ∨ j = 4 ∨ j = 5 := by simp at hj; omega
          rcases hj2 with rfl | rfl | rfl | rfl | rfl | rfl
          · cases ho
            refine ⟨rfl, fun g x hx hp => ?_⟩
            clear hp
            simp only [fillAll, Act.put, List.setIfInBounds_toArray, List.set_cons_zero, List.set_cons_succ]
            refine chain_go ?_ (Wild.free_tells (HFw4.out x hx))
            simp [go_sem, execOp]
          · cases ho
            refine ⟨rfl, fun g x hx hp => ?_⟩
            have p21 : (fun u x => RRt x u l) (g 1) x := hp _ (List.mem_of_getElem? (i := 0) rfl) (List.contains_iff_mem.1 (by kernel_rfl))
            clear hp
            simp only [fillAll, Act.put, List.setIfInBounds_toArray, List.set_cons_zero, List.set_cons_succ]
            refine chain_go ?_ (Wild.free_tells (two_tells (HSet.out x _ p21)))
            simp [go_sem, execOp]
          · cases ho
            refine ⟨rfl, fun g x hx hp => ?_⟩
            have p27 : (IsTwo M 0) (g 7) x := hp _ (List.mem_of_getElem? (i := 1) rfl) (List.contains_iff_mem.1 (by kernel_rfl))
            clear hp
            simp only [fillAll, Act.put, List.setIfInBounds_toArray, List.set_cons_zero, List.set_cons_succ]
            refine Wild.free_is (v := g 7) ?_ p27; simp [go_sem, execOp]
          · cases ho
            refine ⟨rfl, fun g x hx hp => ?_⟩
            have p19 : (IsTwo M 0) (g 8) x := hp _ (List.mem_of_getElem? (i := 2) rfl) (List.contains_iff_mem.1 (by kernel_rfl))
            clear hp
            simp only [fillAll, Act.put, List.setIfInBounds_toArray, List.set_cons_zero, List.set_cons_succ]
            (obtain ⟨vv, ev, rv⟩ := p19; refine Wild.free_is (v := vv) ?_ rv; simp [go_sem, execOp, ev])
          · cases ho
            refine ⟨rfl, fun g x hx hp => ?_⟩
            have p19 : (IsTwo M 0) (g 8) x := hp _ (List.mem_of_getElem? (i := 2) rfl) (List.contains_iff_mem.1 (by kernel_rfl))
            clear hp
            simp only [fillAll, Act.put, List.setIfInBounds_toArray, List.set_cons_zero, List.set_cons_succ]
            (obtain ⟨vv, ev, rv⟩ := p19; refine Wild.free_op ?_; simp [go_sem, execOp, ev])
          · cases ho
            refine ⟨rfl, fun g x hx hp => ?_⟩
            have p28 : (fun u x => RRt x u M) (g 9) x := hp _ (List.mem_of_getElem? (i := 3) rfl) (List.contains_iff_mem.1 (by kernel_rfl))
            clear hp
            simp only [fillAll, Act.put, List.setIfInBounds_toArray, List.set_cons_zero, List.set_cons_succ]
            refine Wild.free_is (v := g 9) ?_ p28; simp [go_sem, execOp]
        case htail =>
          intro g u hst hne
          have b_w5 : AnyLater w4 (later u) := ⟨u, rfl⟩
          generalize later u = w5 at *
          clear u hne
          obtain ⟨p21_w5, -⟩ := hst _ (List.mem_of_getElem? (i := 0) rfl)
          (try dsimp only at p21_w5)
          obtain ⟨p27_w5, -⟩ := hst _ (List.mem_of_getElem? (i := 1) rfl)
          (try dsimp only at p27_w5)
          obtain ⟨p19_w5, -⟩ := hst _ (List.mem_of_getElem? (i := 2) rfl)
          (try dsimp only at p19_w5)
          obtain ⟨p28_w5, -⟩ := hst _ (List.mem_of_getElem? (i := 3) rfl)
          (try dsimp only at p28_w5)
          obtain ⟨p8_w5, -⟩ := hst _ (List.mem_of_getElem? (i := 4) rfl)
          (try dsimp only at p8_w5)
          clear hst
          simp only [fillAll, Act.put, List.setIfInBounds_toArray, List.set_cons_zero, List.set_cons_succ, List.drop_succ_cons, List.drop_zero, List.drop_nil]
          generalize g 1 = v21 at *
          generalize g 7 = v27 at *
          generalize g 8 = v19 at *
          generalize g 9 = v28 at *
          generalize g 11 = v8 at *
          have z_w5 := b_w5.below.size
          have a_w5 := a_w4.trans b_w5
          have c0_w5 := cell_on b_w5 c0
          have c1_w5 := cell_on b_w5 c1
          have r8 := p8_w5
          have HR8 : Hid (∀ w', AnyLater w5 w' → RRt w' v8 M) := Lib.hid (fun w' h => r8.later h)
          have HB5 := Lib.hid b_w5
          clear p21_w5 p27_w5 p19_w5 p28_w5 p8_w5 b_w5 c0 c1
          clear r8
          go_wp2_with fail
          refine (HGd.out _).mono ?_
          rintro e w6 ⟨rfl, rfl⟩
          have HC5 := Lib.hid (And.intro c0_w5 c1_w5)
          have HL5 := Lib.hid (World.block_lt_of_cell? _ _ c0_w5)
          have HO5 := Lib.hid (HO4.out.later HB5.out)
          have HW5 : Hid (AnyLater w3 w5) := Lib.hid (HB43.out.trans HB5.out)
          obtain ⟨F, rfl⟩ := Int.eq_ofNat_of_zero_le q1
          obtain ⟨TT, rfl⟩ := Int.eq_ofNat_of_zero_le (show 0 ≤ t by omega)
          have hFT : F ≤ TT := Int.ofNat_le.1 q2
          have hTn : TT ≤ n := Int.ofNat_le.1 q3
          have HM2 : Hid (ofR (setN s F (TT - F) st) = M) := Lib.hid (by rw [← setL_eq hFT]; exact HM.out)
          have HSN : Hid (∀ p, F ≤ p → p ≤ n → (setN s F (p - F) st).length = n) := Lib.hid (fun p h1 h2 => by rw [setN_length (by rw [HN.out]; omega), HN.out])
          have HSP : Hid (∀ p, F ≤ p → p < n → (setN s F (p - F) st).set p st = setN s F (p + 1 - F) st) := Lib.hid (fun p h1 h2 => by
            have := setN_step (s := s) (f := F) (k := p - F) (st := st) (by rw [HN.out]; omega)
            rw [show F + (p - F) = p by omega] at this
            rw [this, show p + 1 - F = p - F + 1 by omega])
          have HSML : Hid (M.length ≤ 90000) := Lib.hid (by rw [← HM2.out]; have := ofR_length (setN s F (TT - F) st); rw [HSN.out TT hFT hTn] at this; omega)
          clear HM HC5 q1 q2 q3 d1 d2 d3
          go_wp2_with fail
          go_loopg [10] (TT - F) (fun k ii wr => ∃ p : Nat, k = TT - p ∧ F ≤ p ∧ p ≤ TT ∧ ii = .int .i64 p ∧ AnyLater w3 wr ∧ RRt wr v8 M ∧ OI wr w3.heap.size (.slice A7 n c7) (setN s F (p - F) st))
          case atStart => exact ⟨F, rfl, Nat.le_refl _, hFT, rfl, HW5.out, HR8.out _ (AnyLater.refl _), by rw [Nat.sub_self, setN_zero]; exact HO5.out⟩
          case round =>
            obtain ⟨p, hk, hp1, hp2, rfl, ha, hr8, ho⟩ := hrel
            have e1 : wr.cell? ⟨w.heap.size, 1, none⟩ = some (.int .i64 (TT : Int)) := (ha.below.cell HZ4.out).trans HC3.out
            by_cases hlt : p < TT
            · obtain ⟨gg, y, rfl, hB, hg, d0, f0, hblk, hO⟩ := ho.spot (i := p) (by rw [HSN.out p hp1 (by omega)]; omega)
              have HAr : Hid (AnyLater w3 (wr.setCell ⟨gg, p, none⟩ (.int .i64 st)) ∧ RRt (wr.setCell ⟨gg, p, none⟩ (.int .i64 st)) v8 M ∧ OI (wr.setCell ⟨gg, p, none⟩ (.int .i64 st)) w3.heap.size (.slice (some ⟨gg, 0, none⟩) n c7) (setN s F (p + 1 - F) st)) := Lib.hid (by
                refine ⟨ha.setCell (p := ⟨gg, p, none⟩) hB _, ?_, by rw [← HSP.out p hp1 (by omega)]; exact hO st⟩
                obtain ⟨cs, hcs⟩ := hblk
                exact hr8.far hcs (by decide))
              clear ha hr8 ho hO hblk
              go_wp2_with fail
              go_roundg (TT - (p + 1))
              case measure => omega
              case rel => exact ⟨p + 1, rfl, by omega, by omega, by go_num, HAr.out⟩
            · obtain rfl : p = TT := by omega
              have HAr := Lib.hid (And.intro ha (And.intro hr8 ho))
              clear ha hr8 ho
              go_wp2_with fail
              refine (of_any _ _ _ HAr.out.2.2.rn (by rw [HSN.out p hp1 hTn]; omega)).mono ?_
              rintro e w8 ⟨u9, rfl, b8, o9⟩
              have HB8 := Lib.hid (And.intro b8 o9.typed)
              clear b8 o9
              rw [HM2.out] at HB8
              go_wp2_with fail
              refine (rsame_any _ _ M M _ true (decide_eq_true rfl) (HAr.out.2.1.later HB8.out.1).1 HB8.out.2.1 (Nat.le_trans HSML.out (by decide))).mono ?_
              rintro e w9 ⟨rfl, b9⟩
              have HB9 := Lib.hid (HB8.out.1.trans b9)
              clear b9
              go_wp2_with fail
              refine (HLv.out _).mono ?_
              rintro e w10 ⟨rfl, b10⟩
              have HA10 := Lib.hid (HA2.out.trans (HB3.out.trans (HAr.out.1.trans (HB9.out.trans b10))))
              clear b10
              go_wp2_with fail
              go_ret
              exact ⟨rfl, HA10.out⟩
end Go.Proofs.Ytbegglgekkbcoaa
