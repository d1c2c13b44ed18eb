/- rope: whether all that is noted of a piece, and of an even tree, is right: by contract. -/
import Derived.Test.YtiicaldnegcdiaaRopI
import Derived.Laws.StructEq
namespace Go.Proofs.Ytiicaldnegcdiaa
set_option linter.unusedSimpArgs false
set_option linter.unusedVariables false
set_option linter.unusedSectionVars false
open Go.RowKit

set_option maxRecDepth 100000 in
set_option maxHeartbeats 1600000 in
theorem psound_any (p : Pc) (bv fv : Value) (w : World) (hp : RIsP w bv fv p) (fp : p.Fair) :
    Calls Try.prog 131 #[pcV bv fv p] w fun e w' => e = .returned (.bool true) ∧ AnyLater w w' := by
  have hfl := p.fs_len
  obtain ⟨f1, f2, f3, f4⟩ := id fp
  obtain ⟨g, hg⟩ : ∃ g : Nat → Int, g = fun k => p.fs.getD k 0 - p.base := ⟨_, rfl⟩
  have hgk : ∀ k (h : k < p.fs.length), g k = p.fs[k] - p.base := fun k h => by rw [hg]; simp [List.getD_eq_getElem?_getD, h]
  have HP : Hid (∀ (w' : World) (k : Nat), AnyLater w w' → k < p.fs.length → Calls Try.prog 82 #[pcV bv fv p, .int .i64 (k : Int)] w' fun e w'' => e = .returned (.int .i64 (g k)) ∧ AnyLater w' w'') := Lib.hid (fun w' k b hk => place_any p bv fv w' _ _ k rfl hk (hgk k hk).symm (hp.later b) fp)
  have HC := Lib.hid (fun (w' : World) (b : AnyLater w w') => countFeeds_any bv p.b w' (hp.1.later b).rn f4 p.fs.length (feN_length p.b p.base).symm)
  have HM : Hid (∀ k j, k < j → j < p.fs.length → g k < g j) := Lib.hid (fun k j h1 h2 => by
    have := List.pairwise_iff_getElem.1 (feN_sorted p.b p.base) k j (by unfold Pc.fs at h2; omega) h2 h1
    rw [hgk k (by omega), hgk j h2]
    have e : (feN p.base p.b)[k]'(by unfold Pc.fs at h2; omega) = p.fs[k] := rfl
    have e2 : (feN p.base p.b)[j] = p.fs[j] := rfl
    omega)
  obtain ⟨A, cap, rfl, hcap, h3⟩ := hp.1
  obtain ⟨b, off, cs, mk, rfl, hb, hc⟩ := h3 f1
  have hlt := own_lt hb
  have HG : Hid (∀ k, k < p.fs.length → ∃ j : Nat, j < p.b.length ∧ g k = (j : Int) ∧ w.cell? ⟨b, off + j, none⟩ = some (.int .u8 10)) := Lib.hid (fun k hk => by
    obtain ⟨j, hj, e1, e2⟩ := feN_at p.b p.base k hk
    refine ⟨j, hj, ?_, ?_⟩
    · rw [hgk k hk]
      have : p.fs[k] = p.base + j := e1
      omega
    · have := hc j hj
      rw [e2] at this
      simp [World.cell?, hb, this])
  obtain ⟨A2, cap2, rfl, hA2⟩ := hp.2.form
  unfold pcV at HP ⊢
  have hn9 : p.b.length ≤ 90000 := by omega
  clear hp h3 hb hc hg hgk fp f4
  generalize p.b.length = n at *
  generalize p.fs.length = m at *
  generalize p.base = b0 at *
  go_enter Try.func131, Try.ntmps131
  go_wp2_with fail
  first | refine settle_wp (fun wS => AnyLater w wS ∧ wS.heap[w.heap.size]? = some (.cells #[.slice (some ⟨b, off, none⟩) n cap, .slice A2 m cap2, .int .i64 b0] 107)) ?_ ?_ | refine settle_calls (fun wS => AnyLater w wS ∧ wS.heap[w.heap.size]? = some (.cells #[.slice (some ⟨b, off, none⟩) n cap, .slice A2 m cap2, .int .i64 b0] 107)) ?_ ?_
  · refine ⟨?_, ?_⟩
    · repeat' (first | with_reducible assumption | with_reducible exact AnyLater.refl _ | with_reducible apply AnyLater.setCell | with_reducible apply AnyLater.later | with_reducible apply AnyLater.drewN | with_reducible apply AnyLater.drew | with_reducible apply AnyLater.alloc | ((try simp only [World.size_alloc, World.size_setCell, World.size_drew]); (try dsimp only); omega))
    · ((repeat (first | with_reducible assumption | ((with_reducible apply heap_new); (try simp only [World.size_alloc, World.size_setCell, World.size_drew, World.heap_drewN]); done) | ((with_reducible apply heap_new); (try simp only [World.size_alloc, World.size_setCell, World.size_drew, World.heap_drewN]); omega) | (with_reducible refine heap_old (by (try simp only [World.size_alloc, World.size_setCell, World.size_drew, World.heap_drewN]); omega) ?_) | (with_reducible refine heap_drew ?_) | (with_reducible refine heap_far (by omega) ?_) | (with_reducible apply heap_at))); all_goals rfl)
  rintro w1 ⟨b_w1, s0_w1⟩
  have a_w1 := b_w1
  have r0_w1 := own_row s0_w1
  have f0_w1 := own_free s0_w1
  have l0_w1 := own_lt s0_w1
  have z_w1 := b_w1.below.size
  go_loopg [3, 9] m (fun kk pv iv wr => ∃ (i : Nat) (q : Int), kk = m - i ∧ i ≤ m ∧ iv = .int .i64 (i : Int) ∧ pv = .int .i64 q ∧ (i < m → q < g i) ∧ AnyLater w1 wr)
  case atStart =>
    refine ⟨0, -1, by omega, by omega, rfl, rfl, fun h => ?_, AnyLater.refl _⟩
    obtain ⟨j, _, e, _⟩ := HG.out 0 h
    omega
  case round =>
    obtain ⟨i, q, hk, hi, rfl, rfl, hq, b_wr⟩ := hrel
    have z_wr := b_wr.below.size
    have a_wr := a_w1.trans b_wr
    have s0_wr := any_own b_wr s0_w1
    have r0_wr := own_row s0_wr
    have f0_wr := own_free s0_wr
    have l0_wr := own_lt s0_wr
    (try clear r0_w1); (try clear f0_w1)
    by_cases hlt2 : i < m
    · have d0 : (i : Int) < (m : Int) := by omega
      obtain ⟨j, hj, ej, cj⟩ := HG.out i hlt2
      have hqj := hq hlt2
      rw [ej] at hqj
      have HX := Lib.hid (fun h => HM.out i (i + 1) (Nat.lt_succ_self i) h)
      go_wp2_with fail
      refine (HP.out _ _ a_wr hlt2).mono ?_
      rintro e w3 ⟨rfl, b_w3⟩
      have z_w3 := b_w3.below.size
      have a_w3 := a_wr.trans b_w3
      have s0_w3 := any_own b_w3 s0_wr
      have r0_w3 := own_row s0_w3
      have f0_w3 := own_free s0_w3
      have l0_w3 := own_lt s0_w3
      (try clear r0_wr); (try clear f0_wr)
      rw [ej] at HX ⊢
      have c3 := cell_on a_w3 cj
      have d1 : decide ((j : Int) ≤ q) = false := decide_eq_false (by omega)
      have d2 : decide ((n : Int) ≤ (j : Int)) = false := decide_eq_false (by omega)
      have d3 : decide (n ≤ j) = false := decide_eq_false (by omega)
      have d4 : (j : Int) < (n : Int) := by omega
      clear cj hq
      go_wp2_with fail
      go_roundg (m - (i + 1))
      case measure => omega
      case rel => exact ⟨i + 1, (j : Int), rfl, hlt2, by go_num, rfl, fun h => HX.out h, b_wr.trans b_w3⟩
    · obtain rfl : i = m := by omega
      have d5 : (0 : Int) < (n : Int) := by omega
      clear hq hlt2 hk
      go_wp2_with fail
      apply wp_region_mem (13) [] (by kernel_rfl) (by kernel_rfl) (by simp)
      case hstab =>
        intro e he v x y hxy hv
        simp only [List.mem_cons, List.not_mem_nil, or_false] at he
      case hlex =>
        intro U
        have q0 := fun (v : Later (later U)) => own_row (any_own ⟨v, rfl⟩ (any_own ⟨U, rfl⟩ s0_wr))
        simp only [absFrom, absOp, idx, List.map_cons, List.map_nil, List.contains_cons, List.contains_nil, Nat.reduceBEq, Bool.or_false, Bool.false_or, Bool.true_or, Bool.or_true, Bool.false_eq_true, Nat.reduceLeDiff, Nat.reduceAdd, if_false, if_true]
        repeat (go_big_quiet_step ((go_at_call 127; exact in_later (HC.out _ (by repeat' (first | with_reducible assumption | with_reducible exact AnyLater.refl _ | with_reducible apply AnyLater.setCell | with_reducible apply AnyLater.later | with_reducible apply AnyLater.drewN | with_reducible apply AnyLater.drew | with_reducible apply AnyLater.alloc | ((try simp only [World.size_alloc, World.size_setCell, World.size_drew]); (try dsimp only); omega)))))))
        exact wpQuiet_nil rfl
      case hown =>
        intro e he o ho
        simp only [List.mem_cons, List.not_mem_nil, or_false] at he
      case htail =>
        intro g u hst hne
        have b_w4 : AnyLater wr (later u) := ⟨u, rfl⟩
        generalize later u = w4 at *
        clear u
        clear hst hne
        simp only [fillAll, Act.put, List.setIfInBounds_toArray, List.set_cons_zero, List.set_cons_succ, List.drop_succ_cons, List.drop_zero]
        have z_w4 := b_w4.below.size
        have a_w4 := a_wr.trans b_w4
        have s0_w4 := any_own b_w4 s0_wr
        have r0_w4 := own_row s0_w4
        have f0_w4 := own_free s0_w4
        have l0_w4 := own_lt s0_w4
        (try clear r0_wr); (try clear f0_wr)
        go_wp2_with fail
        go_ret
        exact ⟨rfl, a_w4⟩

theorem stood_sums : Try.prog.stoodInHeld 109 = false := by kernel_rfl
theorem fields_sums : Try.prog.underlying 109 = some (.struct (Try.prog.fieldsOf 109)) := by kernel_rfl
theorem guard_sums : Try.prog.eqGuardType Try.prog.depth 109 = false := by kernel_rfl
theorem eql_sums (a b c d : Int) (w : World) : (binOp .eql 109 (.agg #[.int .i64 a, .int .i64 b, .int .i64 c, .int .i64 d]) (.agg #[.int .i64 a, .int .i64 b, .int .i64 c, .int .i64 d])).run Try.prog w = .ok (.bool true) w := by
  rw [run_eql_struct, run_equalIn_agg w 9999 _ _ _ fields_sums stood_sums]
  simp [go_sem]
theorem sound_nil (w : World) : Calls Try.prog 113 #[.pointer none] w fun e w' => e = .returned (.bool true) ∧ AnyLater w w' := by
  go_enter Try.func113, Try.ntmps113
  go_wp2_with fail
  go_ret
  exact ⟨rfl, AnyLater.refl _⟩
set_option maxRecDepth 100000 in
set_option maxHeartbeats 3200000 in
theorem sound_node (l r : Tr) (p : Pc) (v : Value) (w : World) (h : IsT w (.node l p r) v) (hF : (Tr.node l p r).Fair) (hn : (Tr.node l p r).len ≤ 90000) (h1 : l.lev ≤ r.lev + 2) (h2 : r.lev ≤ l.lev + 2)
    (ih1 : ∀ (u : Value) (w' : World), IsT w' l u → Calls Try.prog 113 #[u] w' fun e w'' => e = .returned (.bool true) ∧ AnyLater w' w'')
    (ih2 : ∀ (u : Value) (w' : World), IsT w' r u → Calls Try.prog 113 #[u] w' fun e w'' => e = .returned (.bool true) ∧ AnyLater w' w'') :
    Calls Try.prog 113 #[v] w fun e w' => e = .returned (.bool true) ∧ AnyLater w w' := by
  obtain ⟨k, lv, rv, bv, fv, rfl, hk, hl, hr, hp⟩ := h
  obtain ⟨fl, fp, fr⟩ := hF
  have hn2 : l.len + p.b.length + r.len ≤ 90000 := hn
  have v1 := Tr.lev_small fl (by omega)
  have v2 := Tr.lev_small fr (by omega)
  have HP := Lib.hid (fun (w' : World) (b : AnyLater w w') => psound_any p bv fv w' (hp.later b) fp)
  have HS := Lib.hid (fun (w' : World) (b : AnyLater w w') => sumsOf_any l r p lv rv bv fv w' (hl.later b) (hr.later b) (hp.later b) fl fr hn)
  obtain ⟨D, hD1, hD2, hD⟩ : ∃ D : Value → Value → Prop, D lv rv ∧ D rv lv ∧ ∀ u v, D u v → (u = lv ∧ v = rv) ∨ (u = rv ∧ v = lv) := ⟨fun u v => (u = lv ∧ v = rv) ∨ (u = rv ∧ v = lv), .inl ⟨rfl, rfl⟩, .inr ⟨rfl, rfl⟩, fun _ _ h => h⟩
  obtain ⟨S, hS1, hS2, hS⟩ : ∃ S : Value → Prop, S lv ∧ S rv ∧ ∀ u, S u → u = lv ∨ u = rv := ⟨fun u => u = lv ∨ u = rv, .inl rfl, .inr rfl, fun _ h => h⟩
  have HDp : Hid (∀ (w' : World) (u v : Value), AnyLater w w' → D u v → Calls Try.prog 123 #[u, v] w' fun e w'' => e = .returned (.bool false) ∧ AnyLater w' w'') := Lib.hid (fun w' u v b hd => by
    rcases hD u v hd with ⟨rfl, rfl⟩ | ⟨rfl, rfl⟩
    · exact deeper_any l r _ _ w' false (decide_eq_false (by omega)) (hl.later b) (hr.later b) v1 v2
    · exact deeper_any r l _ _ w' false (decide_eq_false (by omega)) (hr.later b) (hl.later b) v2 v1)
  have HSo : Hid (∀ (w' : World) (u : Value), AnyLater w w' → S u → Calls Try.prog 113 #[u] w' fun e w'' => e = .returned (.bool true) ∧ AnyLater w' w'') := Lib.hid (fun w' u b hs => by
    rcases hS u hs with rfl | rfl
    · exact ih1 _ w' (hl.later b)
    · exact ih2 _ w' (hr.later b))
  obtain ⟨A, cap, rfl, -⟩ := hp.1.form
  obtain ⟨A2, cap2, rfl, -⟩ := hp.2.form
  have eqs := eql_sums
  have gs := guard_sums
  have s0_w := hk
  unfold nodeC at s0_w
  unfold pcV at HP HS
  unfold sumV at HS
  have r0_w := own_row s0_w
  have f0_w := own_free s0_w
  have l0_w := own_lt s0_w
  have b_w := AnyLater.refl w
  clear hl hr hp hk fl fp fr hn hn2 h1 h2 ih1 ih2 v1 v2 hD hS
  generalize p.b.length = n at *
  generalize p.fs.length = m at *
  generalize p.base = b0 at *
  generalize (Tr.node l p r).len = y1 at *
  generalize (Tr.node l p r).nf = y2 at *
  generalize (Tr.node l p r).np = y3 at *
  generalize (Tr.node l p r).lev = y4 at *
  go_enter Try.func113, Try.ntmps113
  go_wp2_with fail
  clear r0_w f0_w
  apply wp_region_mem (63) [] (by kernel_rfl) (by kernel_rfl) (by simp)
  case hstab =>
    intro e he v x y hxy hv
    simp only [List.mem_cons, List.not_mem_nil, or_false] at he
  case hlex =>
    intro U
    have q0 := fun (v : Later (later U)) => own_row (any_own ⟨v, rfl⟩ (any_own ⟨U, rfl⟩ s0_w))
    simp only [absFrom, absOp, idx, List.map_cons, List.map_nil, List.contains_cons, List.contains_nil, Nat.reduceBEq, Bool.or_false, Bool.false_or, Bool.true_or, Bool.or_true, Bool.false_eq_true, Nat.reduceLeDiff, Nat.reduceAdd, if_false, if_true]
    repeat (go_big_quiet_step (first | (go_at_call 131; exact in_later (HP.out _ (AnyLater.trans ⟨U, rfl⟩ ⟨_, rfl⟩))) | (go_at_call 132; exact in_later (HS.out _ (AnyLater.trans ⟨U, rfl⟩ ⟨_, rfl⟩))) | (go_at_call 123; exact in_later (HDp.out _ _ _ (AnyLater.trans ⟨U, rfl⟩ ⟨_, rfl⟩) (by assumption))) | (go_at_call 113; exact in_later (HSo.out _ _ (AnyLater.trans ⟨U, rfl⟩ ⟨_, rfl⟩) (by assumption)))))
    exact wpQuiet_nil rfl
  case hown =>
    intro e he o ho
    simp only [List.mem_cons, List.not_mem_nil, or_false] at he
  case htail =>
    intro g u hst hne
    have b_w1 : AnyLater w (later u) := ⟨u, rfl⟩
    generalize later u = w1 at *
    clear u
    clear hst hne
    simp only [fillAll, Act.put, List.setIfInBounds_toArray, List.set_cons_zero, List.set_cons_succ, List.drop_succ_cons, List.drop_zero]
    have z_w1 := b_w1.below.size
    have a_w1 := b_w1
    have s0_w1 := any_own b_w1 s0_w
    have r0_w1 := own_row s0_w1
    have f0_w1 := own_free s0_w1
    have l0_w1 := own_lt s0_w1
    (try clear r0_w); (try clear f0_w)
    go_wp2_with fail
    go_ret
    exact ⟨rfl, b_w1⟩
/-- all that is noted of an even tree is right -/
theorem sound_any : ∀ (t : Tr) (v : Value) (w : World), IsT w t v → t.Fair → t.len ≤ 90000 → t.Even → Calls Try.prog 113 #[v] w fun e w' => e = .returned (.bool true) ∧ AnyLater w w'
  | .nil, v, w, h, _, _, _ => by
    obtain rfl : v = .pointer none := h
    exact sound_nil w
  | .node l p r, v, w, h, hF, hn, hE => by
    have hn2 : l.len + p.b.length + r.len ≤ 90000 := hn
    exact sound_node l r p v w h hF hn hE.1 hE.2.1 (fun u w' hu => sound_any l u w' hu hF.1 (by omega) hE.2.2.1) (fun u w' hu => sound_any r u w' hu hF.2.2 (by omega) hE.2.2.2)
end Go.Proofs.Ytiicaldnegcdiaa
