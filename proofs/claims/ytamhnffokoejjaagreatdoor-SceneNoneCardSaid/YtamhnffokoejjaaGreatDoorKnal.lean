/- what the proof stands on: RopE SeqA -/
import Derived.Test.YtamhnffokoejjaaGreatDoorKnak
import Derived.Test.YtamhnffokoejjaaGreatDoorKnaj
namespace Go.Proofs.YtamhnffokoejjaaGreatDoor
set_option linter.unusedSimpArgs false
set_option linter.unusedVariables false
set_option linter.unusedSectionVars false
open Go.RowKit
theorem Tr.lev_small {t : Tr} (f : t.Fair) (h : t.len ≤ 90000) : t.lev ≤ 90000 := by
  have h1 := t.np_le f
  have h2 := t.lev_le
  omega
set_option maxRecDepth 100000 in
set_option maxHeartbeats 1600000 in
theorem even_any (l r : Tr) (p : Pc) (lv rv bv fv : Value) (w : World) (t : Tr) (ht : Tr.even l p r = t) (hl : IsT w l lv) (hr : IsT w r rv) (hp : RIsP w bv fv p) (fl : l.Fair) (fp : p.Fair) (fr : r.Fair) (hn : l.len + p.b.length + r.len ≤ 90000) :
    Calls Tryz.prog 214 #[lv, pcV bv fv p, rv] w (Ans (isT t) w) := by
  have v1 := Tr.lev_small fl (by omega)
  have v2 := Tr.lev_small fr (by omega)
  unfold Tr.even at ht
  by_cases c1 : r.lev + 2 < l.lev
  · have HD := Lib.hid (fun (w' : World) (b : AnyLater w w') => deeper_any l r lv rv w' true (by simpa using c1) (hl.later b) (hr.later b) v1 v2)
    rw [if_pos c1] at ht
    have HT : Hid (∀ (w' : World), AnyLater w w' → Calls Tryz.prog 247 #[lv, pcV bv fv p, rv] w' (Ans (isT t) w')) := Lib.hid (fun w' b => by
      cases l with
      | nil => simp [Tr.lev] at c1
      | node a q i => exact turnRight_any a i r q p lv rv bv fv w' t ht (hl.later b) (hr.later b) (hp.later b) fl fp fr hn)
    obtain ⟨A, cap, rfl, -⟩ := hp.1.form
    obtain ⟨A2, cap2, rfl, -⟩ := hp.2.form
    unfold pcV at HT ⊢
    clear hl hr hp fl fp fr hn ht c1 v1 v2
    generalize p.b.length = n at *
    generalize p.fs.length = m at *
    generalize p.base = b0 at *
    go_enter Tryz.func214, Tryz.ntmps214
    go_wp2_with fail
    first | refine settle_wp (fun wS => AnyLater w wS ∧ wS.heap[w.heap.size]? = some (.cells #[.slice A n cap, .slice A2 m cap2, .int .i64 b0] 191)) ?_ ?_ | refine settle_calls (fun wS => AnyLater w wS ∧ wS.heap[w.heap.size]? = some (.cells #[.slice A n cap, .slice A2 m cap2, .int .i64 b0] 191)) ?_ ?_
    · refine ⟨?_, ?_⟩
      · repeat' (first | with_reducible assumption | with_reducible exact AnyLater.refl _ | with_reducible apply AnyLater.setCell | with_reducible apply AnyLater.later | with_reducible apply AnyLater.drewN | with_reducible apply AnyLater.drew | with_reducible apply AnyLater.alloc | ((try simp only [World.size_alloc, World.size_setCell, World.size_drew]); (try dsimp only); omega))
      · ((repeat (first | with_reducible assumption | ((with_reducible apply heap_new); (try simp only [World.size_alloc, World.size_setCell, World.size_drew, World.heap_drewN]); done) | ((with_reducible apply heap_new); (try simp only [World.size_alloc, World.size_setCell, World.size_drew, World.heap_drewN]); omega) | (with_reducible refine heap_old (by (try simp only [World.size_alloc, World.size_setCell, World.size_drew, World.heap_drewN]); omega) ?_) | (with_reducible refine heap_drew ?_) | (with_reducible refine heap_far (by omega) ?_) | (with_reducible apply heap_at))); all_goals rfl)
    rintro w1 ⟨b_w1, s0_w1⟩
    have a_w1 := b_w1
    have r0_w1 := own_row s0_w1
    have f0_w1 := own_free s0_w1
    have l0_w1 := own_lt s0_w1
    have z_w1 := b_w1.below.size
    refine (HD.out _ (by assumption)).mono ?_
    rintro e w2 ⟨rfl, b_w2⟩
    have z_w2 := b_w2.below.size
    have a_w2 := a_w1.trans b_w2
    have s0_w2 := any_own b_w2 s0_w1
    have r0_w2 := own_row s0_w2
    have f0_w2 := own_free s0_w2
    have l0_w2 := own_lt s0_w2
    (try clear r0_w1); (try clear f0_w1)
    go_wp2_with fail
    refine (HT.out _ a_w2).mono ?_
    rintro e w3 ⟨u, rfl, b3, hu⟩
    have HU := Lib.hid (And.intro (a_w2.trans b3) hu)
    clear b3 hu
    go_wp2_with fail
    go_ret
    exact ⟨_, rfl, HU.out.1, HU.out.2⟩
  · have HD := Lib.hid (fun (w' : World) (b : AnyLater w w') => deeper_any l r lv rv w' false (by simpa using c1) (hl.later b) (hr.later b) v1 v2)
    rw [if_neg c1] at ht
    by_cases c2 : l.lev + 2 < r.lev
    · have HD2 := Lib.hid (fun (w' : World) (b : AnyLater w w') => deeper_any r l rv lv w' true (by simpa using c2) (hr.later b) (hl.later b) v2 v1)
      rw [if_pos c2] at ht
      have HT : Hid (∀ (w' : World), AnyLater w w' → Calls Tryz.prog 248 #[lv, pcV bv fv p, rv] w' (Ans (isT t) w')) := Lib.hid (fun w' b => by
        cases r with
        | nil => simp [Tr.lev] at c2
        | node i q o => exact turnLeft_any l i o q p rv lv bv fv w' t ht (hr.later b) (hl.later b) (hp.later b) fr fp fl hn)
      obtain ⟨A, cap, rfl, -⟩ := hp.1.form
      obtain ⟨A2, cap2, rfl, -⟩ := hp.2.form
      unfold pcV at HT ⊢
      clear hl hr hp fl fp fr hn ht c1 c2 v1 v2
      generalize p.b.length = n at *
      generalize p.fs.length = m at *
      generalize p.base = b0 at *
      go_enter Tryz.func214, Tryz.ntmps214
      go_wp2_with fail
      first | refine settle_wp (fun wS => AnyLater w wS ∧ wS.heap[w.heap.size]? = some (.cells #[.slice A n cap, .slice A2 m cap2, .int .i64 b0] 191)) ?_ ?_ | refine settle_calls (fun wS => AnyLater w wS ∧ wS.heap[w.heap.size]? = some (.cells #[.slice A n cap, .slice A2 m cap2, .int .i64 b0] 191)) ?_ ?_
      · refine ⟨?_, ?_⟩
        · repeat' (first | with_reducible assumption | with_reducible exact AnyLater.refl _ | with_reducible apply AnyLater.setCell | with_reducible apply AnyLater.later | with_reducible apply AnyLater.drewN | with_reducible apply AnyLater.drew | with_reducible apply AnyLater.alloc | ((try simp only [World.size_alloc, World.size_setCell, World.size_drew]); (try dsimp only); omega))
        · ((repeat (first | with_reducible assumption | ((with_reducible apply heap_new); (try simp only [World.size_alloc, World.size_setCell, World.size_drew, World.heap_drewN]); done) | ((with_reducible apply heap_new); (try simp only [World.size_alloc, World.size_setCell, World.size_drew, World.heap_drewN]); omega) | (with_reducible refine heap_old (by (try simp only [World.size_alloc, World.size_setCell, World.size_drew, World.heap_drewN]); omega) ?_) | (with_reducible refine heap_drew ?_) | (with_reducible refine heap_far (by omega) ?_) | (with_reducible apply heap_at))); all_goals rfl)
      rintro w1 ⟨b_w1, s0_w1⟩
      have a_w1 := b_w1
      have r0_w1 := own_row s0_w1
      have f0_w1 := own_free s0_w1
      have l0_w1 := own_lt s0_w1
      have z_w1 := b_w1.below.size
      refine (HD.out _ (by assumption)).mono ?_
      rintro e w2 ⟨rfl, b_w2⟩
      have z_w2 := b_w2.below.size
      have a_w2 := a_w1.trans b_w2
      have s0_w2 := any_own b_w2 s0_w1
      have r0_w2 := own_row s0_w2
      have f0_w2 := own_free s0_w2
      have l0_w2 := own_lt s0_w2
      (try clear r0_w1); (try clear f0_w1)
      go_wp2_with fail
      refine (HD2.out _ (by assumption)).mono ?_
      rintro e w3 ⟨rfl, b_w3⟩
      have z_w3 := b_w3.below.size
      have a_w3 := a_w2.trans b_w3
      have s0_w3 := any_own b_w3 s0_w2
      have r0_w3 := own_row s0_w3
      have f0_w3 := own_free s0_w3
      have l0_w3 := own_lt s0_w3
      (try clear r0_w2); (try clear f0_w2)
      go_wp2_with fail
      refine (HT.out _ a_w3).mono ?_
      rintro e w4 ⟨u, rfl, b4, hu⟩
      have HU := Lib.hid (And.intro (a_w3.trans b4) hu)
      clear b4 hu
      go_wp2_with fail
      go_ret
      exact ⟨_, rfl, HU.out.1, HU.out.2⟩
    · have HD2 := Lib.hid (fun (w' : World) (b : AnyLater w w') => deeper_any r l rv lv w' false (by simpa using c2) (hr.later b) (hl.later b) v2 v1)
      rw [if_neg c2] at ht
      have HT : Hid (∀ (w' : World), AnyLater w w' → Calls Tryz.prog 215 #[lv, pcV bv fv p, rv] w' (Ans (isT t) w')) := Lib.hid (fun w' b => by
        subst ht
        exact tie_any l r p lv rv bv fv w' (hl.later b) (hr.later b) (hp.later b) fl fr hn)
      obtain ⟨A, cap, rfl, -⟩ := hp.1.form
      obtain ⟨A2, cap2, rfl, -⟩ := hp.2.form
      unfold pcV at HT ⊢
      clear hl hr hp fl fp fr hn ht c1 c2 v1 v2
      generalize p.b.length = n at *
      generalize p.fs.length = m at *
      generalize p.base = b0 at *
      go_enter Tryz.func214, Tryz.ntmps214
      go_wp2_with fail
      first | refine settle_wp (fun wS => AnyLater w wS ∧ wS.heap[w.heap.size]? = some (.cells #[.slice A n cap, .slice A2 m cap2, .int .i64 b0] 191)) ?_ ?_ | refine settle_calls (fun wS => AnyLater w wS ∧ wS.heap[w.heap.size]? = some (.cells #[.slice A n cap, .slice A2 m cap2, .int .i64 b0] 191)) ?_ ?_
      · refine ⟨?_, ?_⟩
        · repeat' (first | with_reducible assumption | with_reducible exact AnyLater.refl _ | with_reducible apply AnyLater.setCell | with_reducible apply AnyLater.later | with_reducible apply AnyLater.drewN | with_reducible apply AnyLater.drew | with_reducible apply AnyLater.alloc | ((try simp only [World.size_alloc, World.size_setCell, World.size_drew]); (try dsimp only); omega))
        · ((repeat (first | with_reducible assumption | ((with_reducible apply heap_new); (try simp only [World.size_alloc, World.size_setCell, World.size_drew, World.heap_drewN]); done) | ((with_reducible apply heap_new); (try simp only [World.size_alloc, World.size_setCell, World.size_drew, World.heap_drewN]); omega) | (with_reducible refine heap_old (by (try simp only [World.size_alloc, World.size_setCell, World.size_drew, World.heap_drewN]); omega) ?_) | (with_reducible refine heap_drew ?_) | (with_reducible refine heap_far (by omega) ?_) | (with_reducible apply heap_at))); all_goals rfl)
      rintro w1 ⟨b_w1, s0_w1⟩
      have a_w1 := b_w1
      have r0_w1 := own_row s0_w1
      have f0_w1 := own_free s0_w1
      have l0_w1 := own_lt s0_w1
      have z_w1 := b_w1.below.size
      refine (HD.out _ (by assumption)).mono ?_
      rintro e w2 ⟨rfl, b_w2⟩
      have z_w2 := b_w2.below.size
      have a_w2 := a_w1.trans b_w2
      have s0_w2 := any_own b_w2 s0_w1
      have r0_w2 := own_row s0_w2
      have f0_w2 := own_free s0_w2
      have l0_w2 := own_lt s0_w2
      (try clear r0_w1); (try clear f0_w1)
      go_wp2_with fail
      refine (HD2.out _ (by assumption)).mono ?_
      rintro e w3 ⟨rfl, b_w3⟩
      have z_w3 := b_w3.below.size
      have a_w3 := a_w2.trans b_w3
      have s0_w3 := any_own b_w3 s0_w2
      have r0_w3 := own_row s0_w3
      have f0_w3 := own_free s0_w3
      have l0_w3 := own_lt s0_w3
      (try clear r0_w2); (try clear f0_w2)
      go_wp2_with fail
      refine (HT.out _ a_w3).mono ?_
      rintro e w4 ⟨u, rfl, b4, hu⟩
      have HU := Lib.hid (And.intro (a_w3.trans b4) hu)
      clear b4 hu
      go_wp2_with fail
      go_ret
      exact ⟨_, rfl, HU.out.1, HU.out.2⟩
def JoinsTo (n : Nat) : Prop := ∀ (l r : Tr) (p : Pc) (lv rv bv fv : Value) (w : World) (t : Tr), l.np + r.np ≤ n → Tr.join l p r = t → IsT w l lv → IsT w r rv → RIsP w bv fv p → l.Fair → p.Fair → r.Fair → l.len + p.b.length + r.len ≤ 90000 →
    Calls Tryz.prog 169 #[lv, pcV bv fv p, rv] w (Ans (isT t) w)
set_option maxRecDepth 100000 in
set_option maxHeartbeats 1600000 in
theorem join_tied (l r : Tr) (p : Pc) (lv rv bv fv : Value) (w : World) (hl : IsT w l lv) (hr : IsT w r rv) (hp : RIsP w bv fv p) (fl : l.Fair) (fr : r.Fair) (hn : l.len + p.b.length + r.len ≤ 90000) (c1 : ¬ r.lev + 2 < l.lev) (c2 : ¬ l.lev + 2 < r.lev) :
    Calls Tryz.prog 169 #[lv, pcV bv fv p, rv] w (Ans (isT (.node l p r)) w) := by
  have v1 := Tr.lev_small fl (by omega)
  have v2 := Tr.lev_small fr (by omega)
  have HD := Lib.hid (fun (w' : World) (b : AnyLater w w') => deeper_any l r lv rv w' false (by simpa using c1) (hl.later b) (hr.later b) v1 v2)
  have HD2 := Lib.hid (fun (w' : World) (b : AnyLater w w') => deeper_any r l rv lv w' false (by simpa using c2) (hr.later b) (hl.later b) v2 v1)
  have HT : Hid (∀ (w' : World), AnyLater w w' → Calls Tryz.prog 215 #[lv, pcV bv fv p, rv] w' (Ans (isT (.node l p r)) w')) := Lib.hid (fun w' b => tie_any l r p lv rv bv fv w' (hl.later b) (hr.later b) (hp.later b) fl fr hn)
  obtain ⟨A, cap, rfl, -⟩ := hp.1.form
  obtain ⟨A2, cap2, rfl, -⟩ := hp.2.form
  unfold pcV at HT ⊢
  clear hl hr hp fl fr hn c1 c2 v1 v2
  generalize p.b.length = n at *
  generalize p.fs.length = m at *
  generalize p.base = b0 at *
  go_enter Tryz.func169, Tryz.ntmps169
  go_wp2_with fail
  first | refine settle_wp (fun wS => AnyLater w wS ∧ wS.heap[w.heap.size]? = some (.cells #[.slice A n cap, .slice A2 m cap2, .int .i64 b0] 191)) ?_ ?_ | refine settle_calls (fun wS => AnyLater w wS ∧ wS.heap[w.heap.size]? = some (.cells #[.slice A n cap, .slice A2 m cap2, .int .i64 b0] 191)) ?_ ?_
  · refine ⟨?_, ?_⟩
    · repeat' (first | with_reducible assumption | with_reducible exact AnyLater.refl _ | with_reducible apply AnyLater.setCell | with_reducible apply AnyLater.later | with_reducible apply AnyLater.drewN | with_reducible apply AnyLater.drew | with_reducible apply AnyLater.alloc | ((try simp only [World.size_alloc, World.size_setCell, World.size_drew]); (try dsimp only); omega))
    · ((repeat (first | with_reducible assumption | ((with_reducible apply heap_new); (try simp only [World.size_alloc, World.size_setCell, World.size_drew, World.heap_drewN]); done) | ((with_reducible apply heap_new); (try simp only [World.size_alloc, World.size_setCell, World.size_drew, World.heap_drewN]); omega) | (with_reducible refine heap_old (by (try simp only [World.size_alloc, World.size_setCell, World.size_drew, World.heap_drewN]); omega) ?_) | (with_reducible refine heap_drew ?_) | (with_reducible refine heap_far (by omega) ?_) | (with_reducible apply heap_at))); all_goals rfl)
  rintro w1 ⟨b_w1, s0_w1⟩
  have a_w1 := b_w1
  have r0_w1 := own_row s0_w1
  have f0_w1 := own_free s0_w1
  have l0_w1 := own_lt s0_w1
  have z_w1 := b_w1.below.size
  refine (HD.out _ (by assumption)).mono ?_
  rintro e w2 ⟨rfl, b_w2⟩
  have z_w2 := b_w2.below.size
  have a_w2 := a_w1.trans b_w2
  have s0_w2 := any_own b_w2 s0_w1
  have r0_w2 := own_row s0_w2
  have f0_w2 := own_free s0_w2
  have l0_w2 := own_lt s0_w2
  (try clear r0_w1); (try clear f0_w1)
  go_wp2_with fail
  refine (HD2.out _ (by assumption)).mono ?_
  rintro e w3 ⟨rfl, b_w3⟩
  have z_w3 := b_w3.below.size
  have a_w3 := a_w2.trans b_w3
  have s0_w3 := any_own b_w3 s0_w2
  have r0_w3 := own_row s0_w3
  have f0_w3 := own_free s0_w3
  have l0_w3 := own_lt s0_w3
  (try clear r0_w2); (try clear f0_w2)
  go_wp2_with fail
  refine (HT.out _ a_w3).mono ?_
  rintro e w4 ⟨u, rfl, b4, hu⟩
  have HU := Lib.hid (And.intro (a_w3.trans b4) hu)
  clear b4 hu
  go_wp2_with fail
  go_ret
  exact ⟨_, rfl, HU.out.1, HU.out.2⟩
set_option maxRecDepth 100000 in
set_option maxHeartbeats 1600000 in
theorem join_left (N : Nat) (ih : JoinsTo N) (a b r : Tr) (q p : Pc) (v rv bv fv : Value) (w : World) (hN : b.np + r.np ≤ N) (h : IsT w (.node a q b) v) (hr : IsT w r rv) (hp : RIsP w bv fv p) (hF : (Tr.node a q b).Fair) (fp : p.Fair) (fr : r.Fair) (hn : (Tr.node a q b).len + p.b.length + r.len ≤ 90000) (c1 : r.lev + 2 < (Tr.node a q b).lev) :
    Calls Tryz.prog 169 #[v, pcV bv fv p, rv] w (Ans (isT (Tr.even a q (Tr.join b p r))) w) := by
  have v1 := Tr.lev_small hF (by omega)
  have v2 := Tr.lev_small fr (by omega)
  have hn2 : a.len + q.b.length + b.len + p.b.length + r.len ≤ 90000 := hn
  have HD := Lib.hid (fun (w' : World) (e : AnyLater w w') => deeper_any (.node a q b) r v rv w' true (by simpa using c1) (h.later e) (hr.later e) v1 v2)
  obtain ⟨fa, fq, fb⟩ := hF
  obtain ⟨k, lv, iv, qv, gv, rfl, hk, ha, hb, hq⟩ := h
  have HJ := Lib.hid (fun (w' : World) (e : AnyLater w w') => ih b r p iv rv bv fv w' _ hN rfl (hb.later e) (hr.later e) (hp.later e) fb fp fr (by omega))
  have HE := Lib.hid (fun (w' : World) (u : Value) (e : AnyLater w w') (hu : isT (Tr.join b p r) u w') => even_any a (Tr.join b p r) q lv u qv gv w' _ rfl (ha.later e) hu (hq.later e) fa fq (Tr.fair_join fb fp fr) (by rw [Tr.len_join]; omega))
  have HK := Lib.hid hk
  obtain ⟨A, cap, rfl, -⟩ := hp.1.form
  obtain ⟨A2, cap2, rfl, -⟩ := hp.2.form
  obtain ⟨A3, cap3, rfl, -⟩ := hq.1.form
  obtain ⟨A4, cap4, rfl, -⟩ := hq.2.form
  unfold nodeC at HK
  unfold pcV at HJ HE ⊢
  clear ha hb hq hr hp hk hn hn2 hN ih v1 v2 c1
  generalize p.b.length = n at *
  generalize p.fs.length = m at *
  generalize p.base = b0 at *
  generalize q.b.length = n2 at *
  generalize q.fs.length = m2 at *
  generalize q.base = b1 at *
  go_enter Tryz.func169, Tryz.ntmps169
  go_wp2_with fail
  first | refine settle_wp (fun wS => AnyLater w wS ∧ wS.heap[w.heap.size]? = some (.cells #[.slice A n cap, .slice A2 m cap2, .int .i64 b0] 191)) ?_ ?_ | refine settle_calls (fun wS => AnyLater w wS ∧ wS.heap[w.heap.size]? = some (.cells #[.slice A n cap, .slice A2 m cap2, .int .i64 b0] 191)) ?_ ?_
  · refine ⟨?_, ?_⟩
    · repeat' (first | with_reducible assumption | with_reducible exact AnyLater.refl _ | with_reducible apply AnyLater.setCell | with_reducible apply AnyLater.later | with_reducible apply AnyLater.drewN | with_reducible apply AnyLater.drew | with_reducible apply AnyLater.alloc | ((try simp only [World.size_alloc, World.size_setCell, World.size_drew]); (try dsimp only); omega))
    · ((repeat (first | with_reducible assumption | ((with_reducible apply heap_new); (try simp only [World.size_alloc, World.size_setCell, World.size_drew, World.heap_drewN]); done) | ((with_reducible apply heap_new); (try simp only [World.size_alloc, World.size_setCell, World.size_drew, World.heap_drewN]); omega) | (with_reducible refine heap_old (by (try simp only [World.size_alloc, World.size_setCell, World.size_drew, World.heap_drewN]); omega) ?_) | (with_reducible refine heap_drew ?_) | (with_reducible refine heap_far (by omega) ?_) | (with_reducible apply heap_at))); all_goals rfl)
  rintro w1 ⟨b_w1, s0_w1⟩
  have a_w1 := b_w1
  have r0_w1 := own_row s0_w1
  have f0_w1 := own_free s0_w1
  have l0_w1 := own_lt s0_w1
  have z_w1 := b_w1.below.size
  have s1_w1 := any_own a_w1 HK.out
  refine (HD.out _ (by assumption)).mono ?_
  rintro e w2 ⟨rfl, b_w2⟩
  have z_w2 := b_w2.below.size
  have a_w2 := a_w1.trans b_w2
  have s0_w2 := any_own b_w2 s0_w1
  have s1_w2 := any_own b_w2 s1_w1
  have r0_w2 := own_row s0_w2
  have f0_w2 := own_free s0_w2
  have l0_w2 := own_lt s0_w2
  have r1_w2 := own_row s1_w2
  have f1_w2 := own_free s1_w2
  have l1_w2 := own_lt s1_w2
  (try clear r0_w1); (try clear f0_w1)
  (try clear r1_w1); (try clear f1_w1)
  go_wp2_with fail
  apply Wild.wp_region_free (16) [⟨14, 25, undef, true, isT (Tr.join b p r)⟩, ⟨15, 26, undef, true, isT (Tr.even a q (Tr.join b p r))⟩] [⟨14, 25, isT (Tr.join b p r)⟩, ⟨15, 26, isT (Tr.even a q (Tr.join b p r))⟩] rfl (by kernel_rfl) (by kernel_rfl) (by kernel_rfl) (by simp) (by kernel_rfl)
  case hstab =>
    intro c hc
    simp only [List.mem_cons, List.not_mem_nil, or_false] at hc
    rcases hc with rfl | rfl
    · intro v x y hxy hv; exact isT_stays hxy hv
    · intro v x y hxy hv; exact isT_stays hxy hv
  case hfix =>
    intro c hc
    simp only [List.mem_cons, List.not_mem_nil, or_false] at hc
    rcases hc with rfl | rfl
    · exact .inl rfl
    · exact .inl rfl
  case hlex =>
    intro U hU
    have q0 := own_row (any_own hU s0_w2)
    have q1 := own_row (any_own hU s1_w2)
    simp only [List.map_cons, List.map_nil, CA.act, actFrom, actOp, List.lookup, Nat.reduceBEq, Nat.reduceLeDiff, Nat.reduceAdd, if_false, if_true]
    repeat (go_big_quiet_step (fail))
    exact wpQuiet_nil rfl
  case hstep =>
    intro j hj o ho
    have hj2 : j = 0 ∨ j = 1 := by simp at hj; omega
    rcases hj2 with rfl | rfl
    · cases ho
      refine ⟨rfl, fun g x hx hp => ?_⟩
      clear hp
      simp only [fillAll, Act.put, List.setIfInBounds_toArray, List.set_cons_zero, List.set_cons_succ]
      refine chain_go ?_ (Wild.free_tells (HJ.out x (a_w2.trans hx)))
      first | (simp [go_sem, execOp]; done) | simp [go_sem, execOp, hcf]
    · cases ho
      refine ⟨rfl, fun g x hx hp => ?_⟩
      have p25 : (isT (Tr.join b p r)) (g 14) x := hp _ (List.mem_of_getElem? (i := 0) rfl) (List.contains_iff_mem.1 (by kernel_rfl))
      clear hp
      simp only [fillAll, Act.put, List.setIfInBounds_toArray, List.set_cons_zero, List.set_cons_succ]
      refine chain_go ?_ (Wild.free_tells (HE.out _ _ (a_w2.trans hx) p25))
      first | (simp [go_sem, execOp]; done) | simp [go_sem, execOp, hcf]
  case htail =>
    intro g u hst hne
    have b_w3 : AnyLater w2 (later u) := ⟨u, rfl⟩
    generalize later u = w3 at *
    clear u hne
    obtain ⟨p25_w3, -⟩ := hst _ (List.mem_of_getElem? (i := 0) rfl)
    (try dsimp only at p25_w3)
    obtain ⟨p26_w3, -⟩ := hst _ (List.mem_of_getElem? (i := 1) rfl)
    (try dsimp only at p26_w3)
    clear hst
    simp only [fillAll, Act.put, List.setIfInBounds_toArray, List.set_cons_zero, List.set_cons_succ, List.drop_succ_cons, List.drop_zero, List.drop_nil]
    generalize g 14 = v25 at *
    generalize g 15 = v26 at *
    have z_w3 := b_w3.below.size
    have a_w3 := a_w2.trans b_w3
    have s0_w3 := any_own b_w3 s0_w2
    have s1_w3 := any_own b_w3 s1_w2
    have r0_w3 := own_row s0_w3
    have f0_w3 := own_free s0_w3
    have l0_w3 := own_lt s0_w3
    have r1_w3 := own_row s1_w3
    have f1_w3 := own_free s1_w3
    have l1_w3 := own_lt s1_w3
    (try clear r0_w2); (try clear f0_w2)
    (try clear r1_w2); (try clear f1_w2)
    go_wp2_with fail
    go_ret
    exact ⟨_, rfl, a_w3, p26_w3⟩
set_option maxRecDepth 100000 in
set_option maxHeartbeats 1600000 in
theorem join_right (N : Nat) (ih : JoinsTo N) (l a b : Tr) (q p : Pc) (v lv bv fv : Value) (w : World) (hN : l.np + a.np ≤ N) (h : IsT w (.node a q b) v) (hl : IsT w l lv) (hp : RIsP w bv fv p) (hF : (Tr.node a q b).Fair) (fp : p.Fair) (fl : l.Fair) (hn : l.len + p.b.length + (Tr.node a q b).len ≤ 90000) (c1 : ¬ (Tr.node a q b).lev + 2 < l.lev) (c2 : l.lev + 2 < (Tr.node a q b).lev) :
    Calls Tryz.prog 169 #[lv, pcV bv fv p, v] w (Ans (isT (Tr.even (Tr.join l p a) q b)) w) := by
  have v1 := Tr.lev_small hF (by omega)
  have v2 := Tr.lev_small fl (by omega)
  have hn2 : l.len + p.b.length + (a.len + q.b.length + b.len) ≤ 90000 := hn
  have HD := Lib.hid (fun (w' : World) (e : AnyLater w w') => deeper_any l (.node a q b) lv v w' false (by simpa using c1) (hl.later e) (h.later e) v2 v1)
  have HD2 := Lib.hid (fun (w' : World) (e : AnyLater w w') => deeper_any (.node a q b) l v lv w' true (by simpa using c2) (h.later e) (hl.later e) v1 v2)
  obtain ⟨fa, fq, fb⟩ := hF
  obtain ⟨k, iv, rv, qv, gv, rfl, hk, ha, hb, hq⟩ := h
  have HJ := Lib.hid (fun (w' : World) (e : AnyLater w w') => ih l a p lv iv bv fv w' _ hN rfl (hl.later e) (ha.later e) (hp.later e) fl fp fa (by omega))
  have HE := Lib.hid (fun (w' : World) (u : Value) (e : AnyLater w w') (hu : isT (Tr.join l p a) u w') => even_any (Tr.join l p a) b q u rv qv gv w' _ rfl hu (hb.later e) (hq.later e) (Tr.fair_join fl fp fa) fq fb (by rw [Tr.len_join]; omega))
  have HK := Lib.hid hk
  obtain ⟨A, cap, rfl, -⟩ := hp.1.form
  obtain ⟨A2, cap2, rfl, -⟩ := hp.2.form
  obtain ⟨A3, cap3, rfl, -⟩ := hq.1.form
  obtain ⟨A4, cap4, rfl, -⟩ := hq.2.form
  unfold nodeC at HK
  unfold pcV at HJ HE ⊢
  clear ha hb hq hl hp hk hn hn2 hN ih v1 v2 c1 c2
  generalize p.b.length = n at *
  generalize p.fs.length = m at *
  generalize p.base = b0 at *
  generalize q.b.length = n2 at *
  generalize q.fs.length = m2 at *
  generalize q.base = b1 at *
  go_enter Tryz.func169, Tryz.ntmps169
  go_wp2_with fail
  first | refine settle_wp (fun wS => AnyLater w wS ∧ wS.heap[w.heap.size]? = some (.cells #[.slice A n cap, .slice A2 m cap2, .int .i64 b0] 191)) ?_ ?_ | refine settle_calls (fun wS => AnyLater w wS ∧ wS.heap[w.heap.size]? = some (.cells #[.slice A n cap, .slice A2 m cap2, .int .i64 b0] 191)) ?_ ?_
  · refine ⟨?_, ?_⟩
    · repeat' (first | with_reducible assumption | with_reducible exact AnyLater.refl _ | with_reducible apply AnyLater.setCell | with_reducible apply AnyLater.later | with_reducible apply AnyLater.drewN | with_reducible apply AnyLater.drew | with_reducible apply AnyLater.alloc | ((try simp only [World.size_alloc, World.size_setCell, World.size_drew]); (try dsimp only); omega))
    · ((repeat (first | with_reducible assumption | ((with_reducible apply heap_new); (try simp only [World.size_alloc, World.size_setCell, World.size_drew, World.heap_drewN]); done) | ((with_reducible apply heap_new); (try simp only [World.size_alloc, World.size_setCell, World.size_drew, World.heap_drewN]); omega) | (with_reducible refine heap_old (by (try simp only [World.size_alloc, World.size_setCell, World.size_drew, World.heap_drewN]); omega) ?_) | (with_reducible refine heap_drew ?_) | (with_reducible refine heap_far (by omega) ?_) | (with_reducible apply heap_at))); all_goals rfl)
  rintro w1 ⟨b_w1, s0_w1⟩
  have a_w1 := b_w1
  have r0_w1 := own_row s0_w1
  have f0_w1 := own_free s0_w1
  have l0_w1 := own_lt s0_w1
  have z_w1 := b_w1.below.size
  have s1_w1 := any_own a_w1 HK.out
  refine (HD.out _ (by assumption)).mono ?_
  rintro e w2 ⟨rfl, b_w2⟩
  have z_w2 := b_w2.below.size
  have a_w2 := a_w1.trans b_w2
  have s0_w2 := any_own b_w2 s0_w1
  have s1_w2 := any_own b_w2 s1_w1
  have r0_w2 := own_row s0_w2
  have f0_w2 := own_free s0_w2
  have l0_w2 := own_lt s0_w2
  have r1_w2 := own_row s1_w2
  have f1_w2 := own_free s1_w2
  have l1_w2 := own_lt s1_w2
  (try clear r0_w1); (try clear f0_w1)
  (try clear r1_w1); (try clear f1_w1)
  go_wp2_with fail
  refine (HD2.out _ (by assumption)).mono ?_
  rintro e w3 ⟨rfl, b_w3⟩
  have z_w3 := b_w3.below.size
  have a_w3 := a_w2.trans b_w3
  have s0_w3 := any_own b_w3 s0_w2
  have s1_w3 := any_own b_w3 s1_w2
  have r0_w3 := own_row s0_w3
  have f0_w3 := own_free s0_w3
  have l0_w3 := own_lt s0_w3
  have r1_w3 := own_row s1_w3
  have f1_w3 := own_free s1_w3
  have l1_w3 := own_lt s1_w3
  (try clear r0_w2); (try clear f0_w2)
  (try clear r1_w2); (try clear f1_w2)
  go_wp2_with fail
  apply Wild.wp_region_free (16) [⟨6, 37, undef, true, isT (Tr.join l p a)⟩, ⟨15, 46, undef, true, isT (Tr.even (Tr.join l p a) q b)⟩] [⟨6, 37, isT (Tr.join l p a)⟩, ⟨15, 46, isT (Tr.even (Tr.join l p a) q b)⟩] rfl (by kernel_rfl) (by kernel_rfl) (by kernel_rfl) (by simp) (by kernel_rfl)
  case hstab =>
    intro c hc
    simp only [List.mem_cons, List.not_mem_nil, or_false] at hc
    rcases hc with rfl | rfl
    · intro v x y hxy hv; exact isT_stays hxy hv
    · intro v x y hxy hv; exact isT_stays hxy hv
  case hfix =>
    intro c hc
    simp only [List.mem_cons, List.not_mem_nil, or_false] at hc
    rcases hc with rfl | rfl
    · exact .inl rfl
    · exact .inl rfl
  case hlex =>
    intro U hU
    have q0 := own_row (any_own hU s0_w3)
    have q1 := own_row (any_own hU s1_w3)
    simp only [List.map_cons, List.map_nil, CA.act, actFrom, actOp, List.lookup, Nat.reduceBEq, Nat.reduceLeDiff, Nat.reduceAdd, if_false, if_true]
    repeat (go_big_quiet_step (fail))
    exact wpQuiet_nil rfl
  case hstep =>
    intro j hj o ho
    have hj2 : j = 0 ∨ j = 1 := by simp at hj; omega
    rcases hj2 with rfl | rfl
    · cases ho
      refine ⟨rfl, fun g x hx hp => ?_⟩
      clear hp
      simp only [fillAll, Act.put, List.setIfInBounds_toArray, List.set_cons_zero, List.set_cons_succ]
      refine chain_go ?_ (Wild.free_tells (HJ.out x (a_w3.trans hx)))
      first | (simp [go_sem, execOp]; done) | simp [go_sem, execOp, hcf]
    · cases ho
      refine ⟨rfl, fun g x hx hp => ?_⟩
      have p37 : (isT (Tr.join l p a)) (g 6) x := hp _ (List.mem_of_getElem? (i := 0) rfl) (List.contains_iff_mem.1 (by kernel_rfl))
      clear hp
      simp only [fillAll, Act.put, List.setIfInBounds_toArray, List.set_cons_zero, List.set_cons_succ]
      refine chain_go ?_ (Wild.free_tells (HE.out _ _ (a_w3.trans hx) p37))
      first | (simp [go_sem, execOp]; done) | simp [go_sem, execOp, hcf]
  case htail =>
    intro g u hst hne
    have b_w4 : AnyLater w3 (later u) := ⟨u, rfl⟩
    generalize later u = w4 at *
    clear u hne
    obtain ⟨p37_w4, -⟩ := hst _ (List.mem_of_getElem? (i := 0) rfl)
    (try dsimp only at p37_w4)
    obtain ⟨p46_w4, -⟩ := hst _ (List.mem_of_getElem? (i := 1) rfl)
    (try dsimp only at p46_w4)
    clear hst
    simp only [fillAll, Act.put, List.setIfInBounds_toArray, List.set_cons_zero, List.set_cons_succ, List.drop_succ_cons, List.drop_zero, List.drop_nil]
    generalize g 6 = v37 at *
    generalize g 15 = v46 at *
    have z_w4 := b_w4.below.size
    have a_w4 := a_w3.trans b_w4
    have s0_w4 := any_own b_w4 s0_w3
    have s1_w4 := any_own b_w4 s1_w3
    have r0_w4 := own_row s0_w4
    have f0_w4 := own_free s0_w4
    have l0_w4 := own_lt s0_w4
    have r1_w4 := own_row s1_w4
    have f1_w4 := own_free s1_w4
    have l1_w4 := own_lt s1_w4
    (try clear r0_w3); (try clear f0_w3)
    (try clear r1_w3); (try clear f1_w3)
    go_wp2_with fail
    go_ret
    exact ⟨_, rfl, a_w4, p46_w4⟩
theorem joins (n : Nat) : JoinsTo n := by
  induction n with
  | zero =>
    intro l r p lv rv bv fv w t hN ht hl hr hp fl fp fr hn
    subst ht
    have h3 := Tr.lev_le l
    have h4 := Tr.lev_le r
    rw [Tr.join_tie _ _ _ (by omega) (by omega)]
    exact join_tied l r p lv rv bv fv w hl hr hp fl fr hn (by omega) (by omega)
  | succ n ih =>
    intro l r p lv rv bv fv w t hN ht hl hr hp fl fp fr hn
    subst ht
    by_cases c1 : r.lev + 2 < l.lev
    · cases l with
      | nil => simp [Tr.lev] at c1
      | node a q b =>
        rw [Tr.join_left _ _ _ _ _ c1]
        exact join_left n ih a b r q p lv rv bv fv w (by simp only [Tr.np] at hN; omega) hl hr hp fl fp fr hn c1
    · by_cases c2 : l.lev + 2 < r.lev
      · cases r with
        | nil => simp [Tr.lev] at c2
        | node a q b =>
          rw [Tr.join_right _ _ _ _ _ c1 c2]
          exact join_right n ih l a b q p rv lv bv fv w (by simp only [Tr.np] at hN; omega) hr hl hp fr fp fl hn c1 c2
      · rw [Tr.join_tie _ _ _ c1 c2]
        exact join_tied l r p lv rv bv fv w hl hr hp fl fr hn c1 c2
theorem rjoin_any (l r : Tr) (p : Pc) (lv rv bv fv : Value) (w : World) (t : Tr) (ht : Tr.join l p r = t) (hl : IsT w l lv) (hr : IsT w r rv) (hp : RIsP w bv fv p) (fl : l.Fair) (fp : p.Fair) (fr : r.Fair) (hn : l.len + p.b.length + r.len ≤ 90000) :
    Calls Tryz.prog 169 #[lv, pcV bv fv p, rv] w (Ans (isT t) w) := joins _ l r p lv rv bv fv w t (Nat.le_refl _) ht hl hr hp fl fp fr hn
end Go.Proofs.YtamhnffokoejjaaGreatDoor
namespace Go.Proofs.YtamhnffokoejjaaGreatDoor
set_option linter.unusedSimpArgs false
set_option linter.unusedVariables false
set_option linter.unusedSectionVars false
def tlR : Qs → Int
  | [] => 0
  | x :: l => x.1 + tlR l
def tlH : Qs → Int
  | [] => 0
  | x :: l => x.2 + tlH l
theorem tlR_append : ∀ a b : Qs, tlR (a ++ b) = tlR a + tlR b
  | [], b => by simp [tlR]
  | x :: a, b => by rw [List.cons_append, tlR, tlR, tlR_append a b]; omega
theorem tlH_append : ∀ a b : Qs, tlH (a ++ b) = tlH a + tlH b
  | [], b => by simp [tlH]
  | x :: a, b => by rw [List.cons_append, tlH, tlH, tlH_append a b]; omega
def tlC (what : Nat) (l : Qs) : Int := match what with
  | 0 => (l.length : Int)
  | 1 => tlR l
  | _ => tlH l
theorem tlC_append (k : Nat) (a b : Qs) : tlC k (a ++ b) = tlC k a + tlC k b := by
  unfold tlC
  split
  · rw [List.length_append]; omega
  · exact tlR_append a b
  · exact tlH_append a b
def Tls (l : Qs) : Prop := ∀ x ∈ l, (0 ≤ x.1 ∧ x.1 ≤ 16777216) ∧ 0 ≤ x.2 ∧ x.2 ≤ 16777216
theorem Tls.nil : Tls [] := fun _ h => by cases h
theorem Tls.append {a b : Qs} (ha : Tls a) (hb : Tls b) : Tls (a ++ b) := fun x hx => (List.mem_append.1 hx).elim (ha x) (hb x)
theorem Tls.left {a b : Qs} (h : Tls (a ++ b)) : Tls a := fun x hx => h x (List.mem_append_left _ hx)
theorem Tls.right {a b : Qs} (h : Tls (a ++ b)) : Tls b := fun x hx => h x (List.mem_append_right _ hx)
theorem Tls.take {a : Qs} (h : Tls a) (n : Nat) : Tls (a.take n) := fun x hx => h x (List.mem_of_mem_take hx)
theorem Tls.drop {a : Qs} (h : Tls a) (n : Nat) : Tls (a.drop n) := fun x hx => h x (List.mem_of_mem_drop hx)
theorem Tls.sums : ∀ {l : Qs}, Tls l → (0 ≤ tlR l ∧ tlR l ≤ 16777216 * l.length) ∧ 0 ≤ tlH l ∧ tlH l ≤ 16777216 * l.length
  | [], _ => by simp [tlR, tlH]
  | x :: l, h => by
    have h1 := Tls.sums (l := l) (fun y hy => h y (List.mem_cons_of_mem _ hy))
    have h2 := h x (List.mem_cons_self ..)
    rw [tlR, tlH, List.length_cons]
    omega
theorem Tls.cnt {l : Qs} (h : Tls l) (k : Nat) : 0 ≤ tlC k l := by
  have := h.sums
  unfold tlC
  split <;> omega
inductive Ht where
  | nil
  | leaf (b : Nat) (l : Qs)
  | node (l r : Ht)
namespace Ht
def hs : Ht → Qs
  | nil => []
  | leaf _ l => l
  | node l r => l.hs ++ r.hs
def bks : Ht → List Nat
  | nil => []
  | leaf b _ => [b]
  | node l r => l.bks ++ r.bks
def lev : Ht → Nat
  | nil => 0
  | leaf _ _ => 1
  | node l r => 1 + max l.lev r.lev
def np : Ht → Nat
  | nil => 0
  | leaf _ _ => 1
  | node l r => l.np + 1 + r.np
def Full : Ht → Prop
  | nil => True
  | leaf _ l => 0 < l.length
  | node l r => l ≠ nil ∧ r ≠ nil ∧ l.Full ∧ r.Full
def Even : Ht → Prop
  | nil => True
  | leaf _ _ => True
  | node l r => l.lev ≤ r.lev + 1 ∧ r.lev ≤ l.lev + 1 ∧ l.Even ∧ r.Even
theorem lev_le : ∀ t : Ht, t.lev ≤ t.np
  | nil => Nat.le_refl _
  | leaf _ _ => Nat.le_refl _
  | node l r => by
    have h1 := lev_le l
    have h2 := lev_le r
    unfold np lev; omega
theorem lev_pos {t : Ht} (h : t ≠ nil) : 1 ≤ t.lev := by
  cases t with
  | nil => exact absurd rfl h
  | leaf _ _ => exact Nat.le_refl _
  | node l r => unfold lev; omega
theorem hs_pos : ∀ {t : Ht}, t.Full → t ≠ nil → 0 < t.hs.length
  | nil, _, h => absurd rfl h
  | leaf _ _, h, _ => h
  | node l r, h, _ => by
    have := hs_pos h.2.2.1 h.1
    rw [hs, List.length_append]; omega
theorem lev_hs : ∀ {t : Ht}, t.Full → t.lev ≤ t.hs.length
  | nil, _ => Nat.le_refl _
  | leaf _ _, h => h
  | node l r, h => by
    have h1 := lev_hs h.2.2.1
    have h2 := lev_hs h.2.2.2
    have h3 := hs_pos h.2.2.1 h.1
    have h4 := hs_pos h.2.2.2 h.2.1
    rw [hs, List.length_append, lev]; omega
def turnR : Ht → Ht → Ht
  | node o (node a b), r => if (node a b).lev ≤ o.lev then node o (node (node a b) r) else node (node o a) (node b r)
  | node o i, r => node o (node i r)
  | l, r => node l r
def turnL (l : Ht) : Ht → Ht
  | node (node a b) o => if (node a b).lev ≤ o.lev then node (node l (node a b)) o else node (node l a) (node b o)
  | node i o => node (node l i) o
  | r => node l r
def even (l r : Ht) : Ht := if r.lev + 1 < l.lev then turnR l r else if l.lev + 1 < r.lev then turnL l r else node l r
theorem turnR_node (o a b r : Ht) : turnR (node o (node a b)) r = if (node a b).lev ≤ o.lev then node o (node (node a b) r) else node (node o a) (node b r) := rfl
theorem turnL_node (l a b o : Ht) : turnL l (node (node a b) o) = if (node a b).lev ≤ o.lev then node (node l (node a b)) o else node (node l a) (node b o) := rfl
theorem turnR_hs (l r : Ht) : (turnR l r).hs = l.hs ++ r.hs ∧ (turnR l r).bks = l.bks ++ r.bks := by
  match l with
  | nil => simp [turnR, hs, bks]
  | leaf _ _ => simp [turnR, hs, bks]
  | node o nil => simp [turnR, hs, bks]
  | node o (leaf _ _) => simp [turnR, hs, bks]
  | node o (node a b) => rw [turnR_node]; split <;> simp [hs, bks]
theorem turnL_hs (l r : Ht) : (turnL l r).hs = l.hs ++ r.hs ∧ (turnL l r).bks = l.bks ++ r.bks := by
  match r with
  | nil => simp [turnL, hs, bks]
  | leaf _ _ => simp [turnL, hs, bks]
  | node nil o => simp [turnL, hs, bks]
  | node (leaf _ _) o => simp [turnL, hs, bks]
  | node (node a b) o => rw [turnL_node]; split <;> simp [hs, bks]
theorem even_hs (l r : Ht) : (even l r).hs = l.hs ++ r.hs ∧ (even l r).bks = l.bks ++ r.bks := by
  unfold even
  split
  · exact turnR_hs l r
  · split
    · exact turnL_hs l r
    · exact ⟨rfl, rfl⟩
theorem even_even (l r : Ht) (hl : l.Even) (hr : r.Even) (fl : l.Full) (fr : r.Full) (nl : l ≠ nil) (nr : r ≠ nil) (h1 : l.lev ≤ r.lev + 2) (h2 : r.lev ≤ l.lev + 2) :
    (even l r).Even ∧ (even l r).Full ∧ even l r ≠ nil ∧ (l.lev ≤ r.lev + 1 → r.lev ≤ l.lev + 1 → (even l r).lev = 1 + max l.lev r.lev) ∧ max l.lev r.lev ≤ (even l r).lev ∧ (even l r).lev ≤ 1 + max l.lev r.lev := by
  have pr := lev_pos nr
  have pl := lev_pos nl
  unfold even
  split
  · rename_i hc
    match l, hl, fl with
    | nil, _, _ => exact absurd rfl nl
    | leaf _ _, _, _ => simp only [lev] at hc; omega
    | node o nil, _, fl => exact absurd rfl fl.2.1
    | node o (leaf x y), hl, fl =>
      have po := lev_pos fl.1
      simp only [Even, lev] at hl hc h1
      refine ⟨⟨?_, ?_, hl.2.2.1, ?_, ?_, trivial, hr⟩, ⟨fl.1, by simp, fl.2.2.1, by simp, nr, fl.2.2.2, fr⟩, by simp [turnR], fun _ _ => ?_, ?_, ?_⟩ <;> simp only [turnR, lev] at * <;> omega
    | node o (node a b), hl, fl =>
      have po := lev_pos fl.1
      simp only [Even, lev] at hl hc h1 ⊢
      rw [turnR_node]
      split
      · rename_i h
        simp only [lev] at h
        refine ⟨?_, ⟨fl.1, by simp, fl.2.2.1, by simp, nr, fl.2.2.2, fr⟩, by simp, ?_⟩
        · simp only [Even, lev]
          refine ⟨?_, ?_, hl.2.2.1, ?_, ?_, hl.2.2.2, hr⟩ <;> omega
        · simp only [lev]; omega
      · rename_i h
        simp only [lev] at h
        refine ⟨?_, ⟨by simp, by simp, ⟨fl.1, fl.2.2.2.1, fl.2.2.1, fl.2.2.2.2.2.1⟩, fl.2.2.2.2.1, nr, fl.2.2.2.2.2.2, fr⟩, by simp, ?_⟩
        · simp only [Even, lev]
          refine ⟨?_, ?_, ⟨?_, ?_, hl.2.2.1, hl.2.2.2.2.2.1⟩, ?_, ?_, hl.2.2.2.2.2.2, hr⟩ <;> omega
        · simp only [lev]; omega
  · rename_i hc
    split
    · rename_i hd
      match r, hr, fr with
      | nil, _, _ => exact absurd rfl nr
      | leaf _ _, _, _ => simp only [lev] at hd; omega
      | node nil o, _, fr => exact absurd rfl fr.1
      | node (leaf x y) o, hr, fr =>
        have po := lev_pos fr.2.1
        simp only [Even, lev] at hr hd h2
        refine ⟨⟨?_, ?_, ⟨?_, ?_, hl, trivial⟩, hr.2.2.2⟩, ⟨by simp, fr.2.1, ⟨nl, by simp, fl, fr.2.2.1⟩, fr.2.2.2⟩, by simp [turnL], fun _ _ => ?_, ?_, ?_⟩ <;> simp only [turnL, lev] at * <;> omega
      | node (node a b) o, hr, fr =>
        have po := lev_pos fr.2.1
        simp only [Even, lev] at hr hd h2 hc ⊢
        rw [turnL_node]
        split
        · rename_i h
          simp only [lev] at h
          refine ⟨?_, ⟨by simp, fr.2.1, ⟨nl, by simp, fl, fr.2.2.1⟩, fr.2.2.2⟩, by simp, ?_⟩
          · simp only [Even, lev]
            refine ⟨?_, ?_, ⟨?_, ?_, hl, hr.2.2.1⟩, hr.2.2.2⟩ <;> omega
          · simp only [lev]; omega
        · rename_i h
          simp only [lev] at h
          refine ⟨?_, ⟨by simp, by simp, ⟨nl, fr.2.2.1.1, fl, fr.2.2.1.2.2.1⟩, fr.2.2.1.2.1, fr.2.1, fr.2.2.1.2.2.2, fr.2.2.2⟩, by simp, ?_⟩
          · simp only [Even, lev]
            refine ⟨?_, ?_, ⟨?_, ?_, hl, hr.2.2.1.2.2.1⟩, ?_, ?_, hr.2.2.1.2.2.2, hr.2.2.2⟩ <;> omega
          · simp only [lev]; omega
    · exact ⟨⟨by omega, by omega, hl, hr⟩, ⟨nl, nr, fl, fr⟩, by simp, fun _ _ => by simp only [lev], by simp only [lev]; omega, by simp only [lev]; omega⟩
def join (l r : Ht) : Ht :=
  if l.lev = 0 then r else if r.lev = 0 then l
  else if r.lev + 1 < l.lev then
    match l with
    | node a b => even a (join b r)
    | l => node l r
  else if l.lev + 1 < r.lev then
    match r with
    | node a b => even (join l a) b
    | r => node l r
  else node l r
termination_by l.np + r.np
decreasing_by all_goals (simp only [np]; omega)
theorem join_nil_left (r : Ht) : join nil r = r := by rw [join.eq_def, if_pos (show nil.lev = 0 from rfl)]
theorem lev_zero {t : Ht} (h : t.lev = 0) : t = nil := by
  cases t with
  | nil => rfl
  | leaf _ _ => cases h
  | node l r => unfold lev at h; omega
theorem join_nil_right (l : Ht) : join l nil = l := by
  by_cases h : l.lev = 0
  · rw [lev_zero h, join_nil_left]
  · rw [join.eq_def, if_neg h, if_pos (show nil.lev = 0 from rfl)]
theorem join_left (a b r : Ht) (h0 : r ≠ nil) (h : r.lev + 1 < (node a b).lev) : join (node a b) r = even a (join b r) := by
  have := lev_pos h0
  rw [join.eq_def, if_neg (by omega), if_neg (by omega), if_pos h]
theorem join_right (l a b : Ht) (h0 : l ≠ nil) (h : ¬ (node a b).lev + 1 < l.lev) (h2 : l.lev + 1 < (node a b).lev) : join l (node a b) = even (join l a) b := by
  have := lev_pos h0
  rw [join.eq_def, if_neg (by omega), if_neg (by omega), if_neg h, if_pos h2]
theorem join_tie (l r : Ht) (h0 : l ≠ nil) (h3 : r ≠ nil) (h : ¬ r.lev + 1 < l.lev) (h2 : ¬ l.lev + 1 < r.lev) : join l r = node l r := by
  have := lev_pos h0
  have := lev_pos h3
  rw [join.eq_def, if_neg (by omega), if_neg (by omega), if_neg h, if_neg h2]
theorem join_hs_n : ∀ (n : Nat) (l r : Ht), l.np + r.np ≤ n → (join l r).hs = l.hs ++ r.hs ∧ (join l r).bks = l.bks ++ r.bks := by
  intro n
  induction n with
  | zero =>
    intro l r h
    have h3 := lev_le l
    rw [lev_zero (t := l) (by omega), join_nil_left]
    exact ⟨rfl, rfl⟩
  | succ n ih =>
    intro l r h
    by_cases l0 : l = nil
    · rw [l0, join_nil_left]; exact ⟨rfl, rfl⟩
    · by_cases r0 : r = nil
      · rw [r0, join_nil_right]; simp [hs, bks]
      · by_cases h1 : r.lev + 1 < l.lev
        · match l, l0 with
          | nil, l0 => exact absurd rfl l0
          | leaf _ _, _ => simp only [lev] at h1; omega
          | node a b, _ =>
            have i := ih b r (by simp only [np] at h; omega)
            rw [join_left _ _ _ r0 h1, (even_hs _ _).1, (even_hs _ _).2, i.1, i.2]
            simp [hs, bks]
        · by_cases h2 : l.lev + 1 < r.lev
          · match r, r0 with
            | nil, r0 => exact absurd rfl r0
            | leaf _ _, _ => simp only [lev] at h2; omega
            | node a b, _ =>
              have i := ih l a (by simp only [np] at h; omega)
              rw [join_right _ _ _ l0 h1 h2, (even_hs _ _).1, (even_hs _ _).2, i.1, i.2]
              simp [hs, bks]
          · rw [join_tie _ _ l0 r0 h1 h2]; exact ⟨rfl, rfl⟩
theorem hs_join (l r : Ht) : (join l r).hs = l.hs ++ r.hs := (join_hs_n _ l r (Nat.le_refl _)).1
theorem bks_join (l r : Ht) : (join l r).bks = l.bks ++ r.bks := (join_hs_n _ l r (Nat.le_refl _)).2
def Fine (t : Ht) : Prop := t.Even ∧ t.Full
theorem join_fine_n : ∀ (n : Nat) (l r : Ht), l.np + r.np ≤ n → l.Fine → r.Fine → (join l r).Fine ∧ (l ≠ nil → join l r ≠ nil) ∧ (r ≠ nil → join l r ≠ nil) ∧ max l.lev r.lev ≤ (join l r).lev ∧ (join l r).lev ≤ 1 + max l.lev r.lev := by
  intro n
  induction n with
  | zero =>
    intro l r h hl hr
    have h3 := lev_le l
    rw [lev_zero (t := l) (by omega), join_nil_left]
    exact ⟨hr, fun h => absurd rfl h, fun h => h, by simp only [lev]; omega, by simp only [lev]; omega⟩
  | succ n ih =>
    intro l r h hl hr
    by_cases l0 : l = nil
    · rw [l0, join_nil_left]
      exact ⟨hr, fun h => absurd rfl h, fun h => h, by simp only [lev]; omega, by simp only [lev]; omega⟩
    · by_cases r0 : r = nil
      · rw [r0, join_nil_right]
        exact ⟨hl, fun h => h, fun h => absurd rfl h, by simp only [lev]; omega, by simp only [lev]; omega⟩
      · by_cases h1 : r.lev + 1 < l.lev
        · match l, l0, hl with
          | nil, l0, _ => exact absurd rfl l0
          | leaf _ _, _, _ => simp only [lev] at h1; omega
          | node a b, _, ⟨el, fl⟩ =>
            rw [join_left _ _ _ r0 h1]
            obtain ⟨i1, i2, i3, i4, i5⟩ := ih b r (by simp only [np] at h; omega) ⟨el.2.2.2, fl.2.2.2⟩ hr
            obtain ⟨e1, e2, e3, e4⟩ := el
            simp only [lev] at h1 ⊢
            obtain ⟨k1, k2, k3, k4, k5, k6⟩ := even_even a (join b r) e3 i1.1 fl.2.2.1 i1.2 fl.1 (i3 r0) (by omega) (by omega)
            refine ⟨⟨k1, k2⟩, fun _ => k3, fun _ => k3, ?_, ?_⟩
            · by_cases hh : (join b r).lev ≤ a.lev + 1
              · have := k4 (by omega) hh; omega
              · omega
            · omega
        · by_cases h2 : l.lev + 1 < r.lev
          · match r, r0, hr with
            | nil, r0, _ => exact absurd rfl r0
            | leaf _ _, _, _ => simp only [lev] at h2; omega
            | node a b, _, ⟨er, fr⟩ =>
              rw [join_right _ _ _ l0 h1 h2]
              obtain ⟨i1, i2, i3, i4, i5⟩ := ih l a (by simp only [np] at h; omega) hl ⟨er.2.2.1, fr.2.2.1⟩
              obtain ⟨e1, e2, e3, e4⟩ := er
              simp only [lev] at h2 ⊢
              obtain ⟨k1, k2, k3, k4, k5, k6⟩ := even_even (join l a) b i1.1 e4 i1.2 fr.2.2.2 (i2 l0) fr.2.1 (by omega) (by omega)
              refine ⟨⟨k1, k2⟩, fun _ => k3, fun _ => k3, ?_, ?_⟩
              · by_cases hh : (join l a).lev ≤ b.lev + 1
                · have := k4 hh (by omega); omega
                · omega
              · omega
          · rw [join_tie _ _ l0 r0 h1 h2]
            refine ⟨⟨⟨by omega, by omega, hl.1, hr.1⟩, l0, r0, hl.2, hr.2⟩, fun _ => by simp, fun _ => by simp, ?_⟩
            simp only [lev]; omega
theorem Fine.join {l r : Ht} (hl : l.Fine) (hr : r.Fine) : (join l r).Fine := (join_fine_n _ l r (Nat.le_refl _) hl hr).1
theorem Fine.nil : Fine nil := ⟨trivial, trivial⟩
theorem Fine.left {l r : Ht} (h : (node l r).Fine) : l.Fine := ⟨h.1.2.2.1, h.2.2.2.1⟩
theorem Fine.right {l r : Ht} (h : (node l r).Fine) : r.Fine := ⟨h.1.2.2.2, h.2.2.2.2⟩
def ahead : Ht → Nat → Ht × Qs
  | nil, _ => (nil, [])
  | leaf _ l, i => (nil, l.take i)
  | node l r, i => if i ≤ l.hs.length then ahead l i else (join l (ahead r (i - l.hs.length)).1, (ahead r (i - l.hs.length)).2)
def behind : Ht → Nat → Qs × Ht
  | nil, _ => ([], nil)
  | leaf _ l, i => (l.drop i, nil)
  | node l r, i => if l.hs.length ≤ i then behind r (i - l.hs.length) else ((behind l i).1, join (behind l i).2 r)
theorem ahead_hs : ∀ (t : Ht) (i : Nat), (ahead t i).1.hs ++ (ahead t i).2 = t.hs.take i
  | nil, i => by simp [ahead, hs]
  | leaf _ l, i => by simp [ahead, hs]
  | node l r, i => by
    unfold ahead
    split
    · rename_i h
      rw [ahead_hs l i, hs, List.take_append_of_le_length h]
    · rename_i h
      have e : i = l.hs.length + (i - l.hs.length) := by omega
      rw [hs_join, List.append_assoc, ahead_hs r, hs]
      conv => rhs; rw [e, List.take_length_add_append]
theorem behind_hs : ∀ (t : Ht) (i : Nat), (behind t i).1 ++ (behind t i).2.hs = t.hs.drop i
  | nil, i => by simp [behind, hs]
  | leaf _ l, i => by simp [behind, hs]
  | node l r, i => by
    unfold behind
    split
    · rename_i h
      have e : i = l.hs.length + (i - l.hs.length) := by omega
      rw [behind_hs r, hs]
      conv => rhs; rw [e, List.drop_length_add_append]
    · rename_i h
      rw [hs_join, ← List.append_assoc, behind_hs l, hs, List.drop_append_of_le_length (by omega)]
theorem ahead_fine : ∀ (t : Ht) (i : Nat), t.Fine → (ahead t i).1.Fine
  | nil, i, _ => Fine.nil
  | leaf _ l, i, _ => Fine.nil
  | node l r, i, h => by
    unfold ahead
    split
    · exact ahead_fine l i h.left
    · exact h.left.join (ahead_fine r _ h.right)
theorem behind_fine : ∀ (t : Ht) (i : Nat), t.Fine → (behind t i).2.Fine
  | nil, i, _ => Fine.nil
  | leaf _ l, i, _ => Fine.nil
  | node l r, i, h => by
    unfold behind
    split
    · exact behind_fine r _ h.right
    · exact (behind_fine l i h.left).join h.right
theorem ahead_bks : ∀ (t : Ht) (i : Nat), (ahead t i).1.bks.Sublist t.bks
  | nil, i => List.Sublist.refl _
  | leaf _ l, i => List.nil_sublist _
  | node l r, i => by
    unfold ahead
    rw [bks]
    split
    · exact (ahead_bks l i).trans (List.sublist_append_left _ _)
    · rw [bks_join]
      exact (List.Sublist.refl _).append (ahead_bks r _)
theorem behind_bks : ∀ (t : Ht) (i : Nat), (behind t i).2.bks.Sublist t.bks
  | nil, i => List.Sublist.refl _
  | leaf _ l, i => List.nil_sublist _
  | node l r, i => by
    unfold behind
    rw [bks]
    split
    · exact (behind_bks r _).trans (List.sublist_append_right _ _)
    · rw [bks_join]
      exact (behind_bks l i).append (List.Sublist.refl _)
theorem parted_bks : ∀ (t : Ht) (i j : Nat), i ≤ j → ((ahead t i).1.bks ++ (behind t j).2.bks).Sublist t.bks
  | nil, i, j, _ => List.Sublist.refl _
  | leaf _ l, i, j, _ => List.nil_sublist _
  | node l r, i, j, hij => by
    unfold ahead behind
    rw [bks]
    split
    · split
      · exact (ahead_bks l i).append (behind_bks r _)
      · rw [bks_join, ← List.append_assoc]
        exact (parted_bks l i j hij).append (List.Sublist.refl _)
    · rw [if_pos (by omega), bks_join, List.append_assoc]
      exact (List.Sublist.refl _).append (parted_bks r _ _ (by omega))
end Ht
def bldL (n : Nat) : Nat := if n = 0 then 0 else if n ≤ 32 then 1 else 1 + bldL (n - n / 2)
decreasing_by omega
theorem bldL_some {n : Nat} (h : 0 < n) (h2 : n ≤ 32) : bldL n = 1 := by rw [bldL, if_neg (by omega), if_pos h2]
theorem bldL_many {n : Nat} (h : 32 < n) : bldL n = 1 + bldL (n - n / 2) := by rw [bldL, if_neg (by omega), if_neg (by omega)]
theorem bldL_step : ∀ n : Nat, bldL n ≤ bldL (n + 1) ∧ bldL (n + 1) ≤ bldL n + 1 := by
  intro n
  induction n using Nat.strongRecOn with
  | ind n ih =>
    rcases Nat.lt_or_ge n 32 with h | h
    · rw [bldL_some (n := n + 1) (by omega) (by omega)]
      rcases Nat.eq_zero_or_pos n with rfl | hp
      · rw [show bldL 0 = 0 by rw [bldL]; rfl]; omega
      · rw [bldL_some (n := n) hp (by omega)]; omega
    · rw [bldL_many (n := n + 1) (by omega)]
      rcases Nat.eq_or_lt_of_le h with rfl | h2
      · rw [bldL_some (n := 32) (by omega) (by omega), bldL_some (n := 32 + 1 - (32 + 1) / 2) (by omega) (by omega)]; omega
      · rw [bldL_many (n := n) (by omega)]
        rcases Nat.mod_two_eq_zero_or_one n with hm | hm
        · have e : n + 1 - (n + 1) / 2 = (n - n / 2) + 1 := by omega
          rw [e]
          have := ih (n - n / 2) (by omega)
          omega
        · have e : n + 1 - (n + 1) / 2 = n - n / 2 := by omega
          rw [e]; omega
theorem bldL_half {n : Nat} : bldL (n / 2) ≤ bldL (n - n / 2) ∧ bldL (n - n / 2) ≤ bldL (n / 2) + 1 := by
  rcases Nat.mod_two_eq_zero_or_one n with hm | hm
  · have e : n - n / 2 = n / 2 := by omega
    rw [e]; omega
  · have e : n - n / 2 = n / 2 + 1 := by omega
    rw [e]
    have := bldL_step (n / 2)
    omega
end Go.Proofs.YtamhnffokoejjaaGreatDoor
