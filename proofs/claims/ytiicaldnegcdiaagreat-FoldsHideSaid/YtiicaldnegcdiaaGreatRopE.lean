/- rope: parts evened and joined, the last piece taken off, two parts side by side: by contract. -/
import Derived.Test.YtiicaldnegcdiaaGreatRopD
namespace Go.Proofs.YtiicaldnegcdiaaGreat
set_option linter.unusedSimpArgs false
set_option linter.unusedVariables false
set_option linter.unusedSectionVars false
open Go.RowKit

theorem Tr.lev_small {t : Tr} (f : t.Fair) (h : t.len ≤ 90000) : t.lev ≤ 90000 := by
  have h1 := t.np_le f
  have h2 := t.lev_le
  omega
set_option maxRecDepth 100000 in
set_option maxHeartbeats 1600000 in
/-- a piece between two parts, of which one may be one level too deep -/
theorem even_any (l r : Tr) (p : Pc) (lv rv bv fv : Value) (w : World) (t : Tr) (ht : Tr.even l p r = t) (hl : IsT w l lv) (hr : IsT w r rv) (hp : RIsP w bv fv p) (fl : l.Fair) (fp : p.Fair) (fr : r.Fair) (hn : l.len + p.b.length + r.len ≤ 90000) :
    Calls Tryz.prog 72 #[lv, pcV bv fv p, rv] w (Ans (isT t) w) := by
  have v1 := Tr.lev_small fl (by omega)
  have v2 := Tr.lev_small fr (by omega)
  unfold Tr.even at ht
  by_cases c1 : r.lev + 2 < l.lev
  · have HD := Lib.hid (fun (w' : World) (b : AnyLater w w') => deeper_any l r lv rv w' true (by simpa using c1) (hl.later b) (hr.later b) v1 v2)
    rw [if_pos c1] at ht
    have HT : Hid (∀ (w' : World), AnyLater w w' → Calls Tryz.prog 80 #[lv, pcV bv fv p, rv] w' (Ans (isT t) w')) := Lib.hid (fun w' b => by
      cases l with
      | nil => simp [Tr.lev] at c1
      | node a q i => exact turnRight_any a i r q p lv rv bv fv w' t ht (hl.later b) (hr.later b) (hp.later b) fl fp fr hn)
    obtain ⟨A, cap, rfl, -⟩ := hp.1.form
    obtain ⟨A2, cap2, rfl, -⟩ := hp.2.form
    unfold pcV at HT ⊢
    clear hl hr hp fl fp fr hn ht c1 v1 v2
    generalize p.b.length = n at *
    generalize p.fs.length = m at *
    generalize p.base = b0 at *
    go_enter Tryz.func72, Tryz.ntmps72
    go_wp2_with fail
    first | refine settle_wp (fun wS => AnyLater w wS ∧ wS.heap[w.heap.size]? = some (.cells #[.slice A n cap, .slice A2 m cap2, .int .i64 b0] 94)) ?_ ?_ | refine settle_calls (fun wS => AnyLater w wS ∧ wS.heap[w.heap.size]? = some (.cells #[.slice A n cap, .slice A2 m cap2, .int .i64 b0] 94)) ?_ ?_
    · refine ⟨?_, ?_⟩
      · repeat' (first | with_reducible assumption | with_reducible exact AnyLater.refl _ | with_reducible apply AnyLater.setCell | with_reducible apply AnyLater.later | with_reducible apply AnyLater.drewN | with_reducible apply AnyLater.drew | with_reducible apply AnyLater.alloc | ((try simp only [World.size_alloc, World.size_setCell, World.size_drew]); (try dsimp only); omega))
      · ((repeat (first | with_reducible assumption | ((with_reducible apply heap_new); (try simp only [World.size_alloc, World.size_setCell, World.size_drew, World.heap_drewN]); done) | ((with_reducible apply heap_new); (try simp only [World.size_alloc, World.size_setCell, World.size_drew, World.heap_drewN]); omega) | (with_reducible refine heap_old (by (try simp only [World.size_alloc, World.size_setCell, World.size_drew, World.heap_drewN]); omega) ?_) | (with_reducible refine heap_drew ?_) | (with_reducible refine heap_far (by omega) ?_) | (with_reducible apply heap_at))); all_goals rfl)
    rintro w1 ⟨b_w1, s0_w1⟩
    have a_w1 := b_w1
    have r0_w1 := own_row s0_w1
    have f0_w1 := own_free s0_w1
    have l0_w1 := own_lt s0_w1
    have z_w1 := b_w1.below.size
    refine (HD.out _ (by assumption)).mono ?_
    rintro e w2 ⟨rfl, b_w2⟩
    have z_w2 := b_w2.below.size
    have a_w2 := a_w1.trans b_w2
    have s0_w2 := any_own b_w2 s0_w1
    have r0_w2 := own_row s0_w2
    have f0_w2 := own_free s0_w2
    have l0_w2 := own_lt s0_w2
    (try clear r0_w1); (try clear f0_w1)
    go_wp2_with fail
    refine (HT.out _ a_w2).mono ?_
    rintro e w3 ⟨u, rfl, b3, hu⟩
    have HU := Lib.hid (And.intro (a_w2.trans b3) hu)
    clear b3 hu
    go_wp2_with fail
    go_ret
    exact ⟨_, rfl, HU.out.1, HU.out.2⟩
  · have HD := Lib.hid (fun (w' : World) (b : AnyLater w w') => deeper_any l r lv rv w' false (by simpa using c1) (hl.later b) (hr.later b) v1 v2)
    rw [if_neg c1] at ht
    by_cases c2 : l.lev + 2 < r.lev
    · have HD2 := Lib.hid (fun (w' : World) (b : AnyLater w w') => deeper_any r l rv lv w' true (by simpa using c2) (hr.later b) (hl.later b) v2 v1)
      rw [if_pos c2] at ht
      have HT : Hid (∀ (w' : World), AnyLater w w' → Calls Tryz.prog 81 #[lv, pcV bv fv p, rv] w' (Ans (isT t) w')) := Lib.hid (fun w' b => by
        cases r with
        | nil => simp [Tr.lev] at c2
        | node i q o => exact turnLeft_any l i o q p rv lv bv fv w' t ht (hr.later b) (hl.later b) (hp.later b) fr fp fl hn)
      obtain ⟨A, cap, rfl, -⟩ := hp.1.form
      obtain ⟨A2, cap2, rfl, -⟩ := hp.2.form
      unfold pcV at HT ⊢
      clear hl hr hp fl fp fr hn ht c1 c2 v1 v2
      generalize p.b.length = n at *
      generalize p.fs.length = m at *
      generalize p.base = b0 at *
      go_enter Tryz.func72, Tryz.ntmps72
      go_wp2_with fail
      first | refine settle_wp (fun wS => AnyLater w wS ∧ wS.heap[w.heap.size]? = some (.cells #[.slice A n cap, .slice A2 m cap2, .int .i64 b0] 94)) ?_ ?_ | refine settle_calls (fun wS => AnyLater w wS ∧ wS.heap[w.heap.size]? = some (.cells #[.slice A n cap, .slice A2 m cap2, .int .i64 b0] 94)) ?_ ?_
      · refine ⟨?_, ?_⟩
        · repeat' (first | with_reducible assumption | with_reducible exact AnyLater.refl _ | with_reducible apply AnyLater.setCell | with_reducible apply AnyLater.later | with_reducible apply AnyLater.drewN | with_reducible apply AnyLater.drew | with_reducible apply AnyLater.alloc | ((try simp only [World.size_alloc, World.size_setCell, World.size_drew]); (try dsimp only); omega))
        · ((repeat (first | with_reducible assumption | ((with_reducible apply heap_new); (try simp only [World.size_alloc, World.size_setCell, World.size_drew, World.heap_drewN]); done) | ((with_reducible apply heap_new); (try simp only [World.size_alloc, World.size_setCell, World.size_drew, World.heap_drewN]); omega) | (with_reducible refine heap_old (by (try simp only [World.size_alloc, World.size_setCell, World.size_drew, World.heap_drewN]); omega) ?_) | (with_reducible refine heap_drew ?_) | (with_reducible refine heap_far (by omega) ?_) | (with_reducible apply heap_at))); all_goals rfl)
      rintro w1 ⟨b_w1, s0_w1⟩
      have a_w1 := b_w1
      have r0_w1 := own_row s0_w1
      have f0_w1 := own_free s0_w1
      have l0_w1 := own_lt s0_w1
      have z_w1 := b_w1.below.size
      refine (HD.out _ (by assumption)).mono ?_
      rintro e w2 ⟨rfl, b_w2⟩
      have z_w2 := b_w2.below.size
      have a_w2 := a_w1.trans b_w2
      have s0_w2 := any_own b_w2 s0_w1
      have r0_w2 := own_row s0_w2
      have f0_w2 := own_free s0_w2
      have l0_w2 := own_lt s0_w2
      (try clear r0_w1); (try clear f0_w1)
      go_wp2_with fail
      refine (HD2.out _ (by assumption)).mono ?_
      rintro e w3 ⟨rfl, b_w3⟩
      have z_w3 := b_w3.below.size
      have a_w3 := a_w2.trans b_w3
      have s0_w3 := any_own b_w3 s0_w2
      have r0_w3 := own_row s0_w3
      have f0_w3 := own_free s0_w3
      have l0_w3 := own_lt s0_w3
      (try clear r0_w2); (try clear f0_w2)
      go_wp2_with fail
      refine (HT.out _ a_w3).mono ?_
      rintro e w4 ⟨u, rfl, b4, hu⟩
      have HU := Lib.hid (And.intro (a_w3.trans b4) hu)
      clear b4 hu
      go_wp2_with fail
      go_ret
      exact ⟨_, rfl, HU.out.1, HU.out.2⟩
    · have HD2 := Lib.hid (fun (w' : World) (b : AnyLater w w') => deeper_any r l rv lv w' false (by simpa using c2) (hr.later b) (hl.later b) v2 v1)
      rw [if_neg c2] at ht
      have HT : Hid (∀ (w' : World), AnyLater w w' → Calls Tryz.prog 73 #[lv, pcV bv fv p, rv] w' (Ans (isT t) w')) := Lib.hid (fun w' b => by
        subst ht
        exact tie_any l r p lv rv bv fv w' (hl.later b) (hr.later b) (hp.later b) fl fr hn)
      obtain ⟨A, cap, rfl, -⟩ := hp.1.form
      obtain ⟨A2, cap2, rfl, -⟩ := hp.2.form
      unfold pcV at HT ⊢
      clear hl hr hp fl fp fr hn ht c1 c2 v1 v2
      generalize p.b.length = n at *
      generalize p.fs.length = m at *
      generalize p.base = b0 at *
      go_enter Tryz.func72, Tryz.ntmps72
      go_wp2_with fail
      first | refine settle_wp (fun wS => AnyLater w wS ∧ wS.heap[w.heap.size]? = some (.cells #[.slice A n cap, .slice A2 m cap2, .int .i64 b0] 94)) ?_ ?_ | refine settle_calls (fun wS => AnyLater w wS ∧ wS.heap[w.heap.size]? = some (.cells #[.slice A n cap, .slice A2 m cap2, .int .i64 b0] 94)) ?_ ?_
      · refine ⟨?_, ?_⟩
        · repeat' (first | with_reducible assumption | with_reducible exact AnyLater.refl _ | with_reducible apply AnyLater.setCell | with_reducible apply AnyLater.later | with_reducible apply AnyLater.drewN | with_reducible apply AnyLater.drew | with_reducible apply AnyLater.alloc | ((try simp only [World.size_alloc, World.size_setCell, World.size_drew]); (try dsimp only); omega))
        · ((repeat (first | with_reducible assumption | ((with_reducible apply heap_new); (try simp only [World.size_alloc, World.size_setCell, World.size_drew, World.heap_drewN]); done) | ((with_reducible apply heap_new); (try simp only [World.size_alloc, World.size_setCell, World.size_drew, World.heap_drewN]); omega) | (with_reducible refine heap_old (by (try simp only [World.size_alloc, World.size_setCell, World.size_drew, World.heap_drewN]); omega) ?_) | (with_reducible refine heap_drew ?_) | (with_reducible refine heap_far (by omega) ?_) | (with_reducible apply heap_at))); all_goals rfl)
      rintro w1 ⟨b_w1, s0_w1⟩
      have a_w1 := b_w1
      have r0_w1 := own_row s0_w1
      have f0_w1 := own_free s0_w1
      have l0_w1 := own_lt s0_w1
      have z_w1 := b_w1.below.size
      refine (HD.out _ (by assumption)).mono ?_
      rintro e w2 ⟨rfl, b_w2⟩
      have z_w2 := b_w2.below.size
      have a_w2 := a_w1.trans b_w2
      have s0_w2 := any_own b_w2 s0_w1
      have r0_w2 := own_row s0_w2
      have f0_w2 := own_free s0_w2
      have l0_w2 := own_lt s0_w2
      (try clear r0_w1); (try clear f0_w1)
      go_wp2_with fail
      refine (HD2.out _ (by assumption)).mono ?_
      rintro e w3 ⟨rfl, b_w3⟩
      have z_w3 := b_w3.below.size
      have a_w3 := a_w2.trans b_w3
      have s0_w3 := any_own b_w3 s0_w2
      have r0_w3 := own_row s0_w3
      have f0_w3 := own_free s0_w3
      have l0_w3 := own_lt s0_w3
      (try clear r0_w2); (try clear f0_w2)
      go_wp2_with fail
      refine (HT.out _ a_w3).mono ?_
      rintro e w4 ⟨u, rfl, b4, hu⟩
      have HU := Lib.hid (And.intro (a_w3.trans b4) hu)
      clear b4 hu
      go_wp2_with fail
      go_ret
      exact ⟨_, rfl, HU.out.1, HU.out.2⟩

/-! ### joined -/
def JoinsTo (n : Nat) : Prop := ∀ (l r : Tr) (p : Pc) (lv rv bv fv : Value) (w : World) (t : Tr), l.np + r.np ≤ n → Tr.join l p r = t → IsT w l lv → IsT w r rv → RIsP w bv fv p → l.Fair → p.Fair → r.Fair → l.len + p.b.length + r.len ≤ 90000 →
    Calls Tryz.prog 58 #[lv, pcV bv fv p, rv] w (Ans (isT t) w)
set_option maxRecDepth 100000 in
set_option maxHeartbeats 1600000 in
theorem join_tied (l r : Tr) (p : Pc) (lv rv bv fv : Value) (w : World) (hl : IsT w l lv) (hr : IsT w r rv) (hp : RIsP w bv fv p) (fl : l.Fair) (fr : r.Fair) (hn : l.len + p.b.length + r.len ≤ 90000) (c1 : ¬ r.lev + 2 < l.lev) (c2 : ¬ l.lev + 2 < r.lev) :
    Calls Tryz.prog 58 #[lv, pcV bv fv p, rv] w (Ans (isT (.node l p r)) w) := by
  have v1 := Tr.lev_small fl (by omega)
  have v2 := Tr.lev_small fr (by omega)
  have HD := Lib.hid (fun (w' : World) (b : AnyLater w w') => deeper_any l r lv rv w' false (by simpa using c1) (hl.later b) (hr.later b) v1 v2)
  have HD2 := Lib.hid (fun (w' : World) (b : AnyLater w w') => deeper_any r l rv lv w' false (by simpa using c2) (hr.later b) (hl.later b) v2 v1)
  have HT : Hid (∀ (w' : World), AnyLater w w' → Calls Tryz.prog 73 #[lv, pcV bv fv p, rv] w' (Ans (isT (.node l p r)) w')) := Lib.hid (fun w' b => tie_any l r p lv rv bv fv w' (hl.later b) (hr.later b) (hp.later b) fl fr hn)
  obtain ⟨A, cap, rfl, -⟩ := hp.1.form
  obtain ⟨A2, cap2, rfl, -⟩ := hp.2.form
  unfold pcV at HT ⊢
  clear hl hr hp fl fr hn c1 c2 v1 v2
  generalize p.b.length = n at *
  generalize p.fs.length = m at *
  generalize p.base = b0 at *
  go_enter Tryz.func58, Tryz.ntmps58
  go_wp2_with fail
  first | refine settle_wp (fun wS => AnyLater w wS ∧ wS.heap[w.heap.size]? = some (.cells #[.slice A n cap, .slice A2 m cap2, .int .i64 b0] 94)) ?_ ?_ | refine settle_calls (fun wS => AnyLater w wS ∧ wS.heap[w.heap.size]? = some (.cells #[.slice A n cap, .slice A2 m cap2, .int .i64 b0] 94)) ?_ ?_
  · refine ⟨?_, ?_⟩
    · repeat' (first | with_reducible assumption | with_reducible exact AnyLater.refl _ | with_reducible apply AnyLater.setCell | with_reducible apply AnyLater.later | with_reducible apply AnyLater.drewN | with_reducible apply AnyLater.drew | with_reducible apply AnyLater.alloc | ((try simp only [World.size_alloc, World.size_setCell, World.size_drew]); (try dsimp only); omega))
    · ((repeat (first | with_reducible assumption | ((with_reducible apply heap_new); (try simp only [World.size_alloc, World.size_setCell, World.size_drew, World.heap_drewN]); done) | ((with_reducible apply heap_new); (try simp only [World.size_alloc, World.size_setCell, World.size_drew, World.heap_drewN]); omega) | (with_reducible refine heap_old (by (try simp only [World.size_alloc, World.size_setCell, World.size_drew, World.heap_drewN]); omega) ?_) | (with_reducible refine heap_drew ?_) | (with_reducible refine heap_far (by omega) ?_) | (with_reducible apply heap_at))); all_goals rfl)
  rintro w1 ⟨b_w1, s0_w1⟩
  have a_w1 := b_w1
  have r0_w1 := own_row s0_w1
  have f0_w1 := own_free s0_w1
  have l0_w1 := own_lt s0_w1
  have z_w1 := b_w1.below.size
  refine (HD.out _ (by assumption)).mono ?_
  rintro e w2 ⟨rfl, b_w2⟩
  have z_w2 := b_w2.below.size
  have a_w2 := a_w1.trans b_w2
  have s0_w2 := any_own b_w2 s0_w1
  have r0_w2 := own_row s0_w2
  have f0_w2 := own_free s0_w2
  have l0_w2 := own_lt s0_w2
  (try clear r0_w1); (try clear f0_w1)
  go_wp2_with fail
  refine (HD2.out _ (by assumption)).mono ?_
  rintro e w3 ⟨rfl, b_w3⟩
  have z_w3 := b_w3.below.size
  have a_w3 := a_w2.trans b_w3
  have s0_w3 := any_own b_w3 s0_w2
  have r0_w3 := own_row s0_w3
  have f0_w3 := own_free s0_w3
  have l0_w3 := own_lt s0_w3
  (try clear r0_w2); (try clear f0_w2)
  go_wp2_with fail
  refine (HT.out _ a_w3).mono ?_
  rintro e w4 ⟨u, rfl, b4, hu⟩
  have HU := Lib.hid (And.intro (a_w3.trans b4) hu)
  clear b4 hu
  go_wp2_with fail
  go_ret
  exact ⟨_, rfl, HU.out.1, HU.out.2⟩
set_option maxRecDepth 100000 in
set_option maxHeartbeats 1600000 in
theorem join_left (N : Nat) (ih : JoinsTo N) (a b r : Tr) (q p : Pc) (v rv bv fv : Value) (w : World) (hN : b.np + r.np ≤ N) (h : IsT w (.node a q b) v) (hr : IsT w r rv) (hp : RIsP w bv fv p) (hF : (Tr.node a q b).Fair) (fp : p.Fair) (fr : r.Fair) (hn : (Tr.node a q b).len + p.b.length + r.len ≤ 90000) (c1 : r.lev + 2 < (Tr.node a q b).lev) :
    Calls Tryz.prog 58 #[v, pcV bv fv p, rv] w (Ans (isT (Tr.even a q (Tr.join b p r))) w) := by
  have v1 := Tr.lev_small hF (by omega)
  have v2 := Tr.lev_small fr (by omega)
  have hn2 : a.len + q.b.length + b.len + p.b.length + r.len ≤ 90000 := hn
  have HD := Lib.hid (fun (w' : World) (e : AnyLater w w') => deeper_any (.node a q b) r v rv w' true (by simpa using c1) (h.later e) (hr.later e) v1 v2)
  obtain ⟨fa, fq, fb⟩ := hF
  obtain ⟨k, lv, iv, qv, gv, rfl, hk, ha, hb, hq⟩ := h
  have HJ := Lib.hid (fun (w' : World) (e : AnyLater w w') => ih b r p iv rv bv fv w' _ hN rfl (hb.later e) (hr.later e) (hp.later e) fb fp fr (by omega))
  have HE := Lib.hid (fun (w' : World) (u : Value) (e : AnyLater w w') (hu : isT (Tr.join b p r) u w') => even_any a (Tr.join b p r) q lv u qv gv w' _ rfl (ha.later e) hu (hq.later e) fa fq (Tr.fair_join fb fp fr) (by rw [Tr.len_join]; omega))
  have HK := Lib.hid hk
  obtain ⟨A, cap, rfl, -⟩ := hp.1.form
  obtain ⟨A2, cap2, rfl, -⟩ := hp.2.form
  obtain ⟨A3, cap3, rfl, -⟩ := hq.1.form
  obtain ⟨A4, cap4, rfl, -⟩ := hq.2.form
  unfold nodeC at HK
  unfold pcV at HJ HE ⊢
  clear ha hb hq hr hp hk hn hn2 hN ih v1 v2 c1
  generalize p.b.length = n at *
  generalize p.fs.length = m at *
  generalize p.base = b0 at *
  generalize q.b.length = n2 at *
  generalize q.fs.length = m2 at *
  generalize q.base = b1 at *
  go_enter Tryz.func58, Tryz.ntmps58
  go_wp2_with fail
  first | refine settle_wp (fun wS => AnyLater w wS ∧ wS.heap[w.heap.size]? = some (.cells #[.slice A n cap, .slice A2 m cap2, .int .i64 b0] 94)) ?_ ?_ | refine settle_calls (fun wS => AnyLater w wS ∧ wS.heap[w.heap.size]? = some (.cells #[.slice A n cap, .slice A2 m cap2, .int .i64 b0] 94)) ?_ ?_
  · refine ⟨?_, ?_⟩
    · repeat' (first | with_reducible assumption | with_reducible exact AnyLater.refl _ | with_reducible apply AnyLater.setCell | with_reducible apply AnyLater.later | with_reducible apply AnyLater.drewN | with_reducible apply AnyLater.drew | with_reducible apply AnyLater.alloc | ((try simp only [World.size_alloc, World.size_setCell, World.size_drew]); (try dsimp only); omega))
    · ((repeat (first | with_reducible assumption | ((with_reducible apply heap_new); (try simp only [World.size_alloc, World.size_setCell, World.size_drew, World.heap_drewN]); done) | ((with_reducible apply heap_new); (try simp only [World.size_alloc, World.size_setCell, World.size_drew, World.heap_drewN]); omega) | (with_reducible refine heap_old (by (try simp only [World.size_alloc, World.size_setCell, World.size_drew, World.heap_drewN]); omega) ?_) | (with_reducible refine heap_drew ?_) | (with_reducible refine heap_far (by omega) ?_) | (with_reducible apply heap_at))); all_goals rfl)
  rintro w1 ⟨b_w1, s0_w1⟩
  have a_w1 := b_w1
  have r0_w1 := own_row s0_w1
  have f0_w1 := own_free s0_w1
  have l0_w1 := own_lt s0_w1
  have z_w1 := b_w1.below.size
  have s1_w1 := any_own a_w1 HK.out
  refine (HD.out _ (by assumption)).mono ?_
  rintro e w2 ⟨rfl, b_w2⟩
  have z_w2 := b_w2.below.size
  have a_w2 := a_w1.trans b_w2
  have s0_w2 := any_own b_w2 s0_w1
  have s1_w2 := any_own b_w2 s1_w1
  have r0_w2 := own_row s0_w2
  have f0_w2 := own_free s0_w2
  have l0_w2 := own_lt s0_w2
  have r1_w2 := own_row s1_w2
  have f1_w2 := own_free s1_w2
  have l1_w2 := own_lt s1_w2
  (try clear r0_w1); (try clear f0_w1)
  (try clear r1_w1); (try clear f1_w1)
  go_wp2_with fail
  apply Wild.wp_region_free (16) [⟨14, 25, undef, true, isT (Tr.join b p r)⟩, ⟨15, 26, undef, true, isT (Tr.even a q (Tr.join b p r))⟩] [⟨14, 25, isT (Tr.join b p r)⟩, ⟨15, 26, isT (Tr.even a q (Tr.join b p r))⟩] rfl (by kernel_rfl) (by kernel_rfl) (by kernel_rfl) (by simp) (by kernel_rfl)
  case hstab =>
    intro c hc
    simp only [List.mem_cons, List.not_mem_nil, or_false] at hc
    rcases hc with rfl | rfl
    · intro v x y hxy hv; exact isT_stays hxy hv
    · intro v x y hxy hv; exact isT_stays hxy hv
  case hfix =>
    intro c hc
    simp only [List.mem_cons, List.not_mem_nil, or_false] at hc
    rcases hc with rfl | rfl
    · exact .inl rfl
    · exact .inl rfl
  case hlex =>
    intro U hU
    have q0 := own_row (any_own hU s0_w2)
    have q1 := own_row (any_own hU s1_w2)
    simp only [List.map_cons, List.map_nil, CA.act, actFrom, actOp, List.lookup, Nat.reduceBEq, Nat.reduceLeDiff, Nat.reduceAdd, if_false, if_true]
    repeat (go_big_quiet_step (fail))
    exact wpQuiet_nil rfl
  case hstep =>
    intro j hj o ho
    have hj2 : j = 0 ∨ j = 1 := by simp at hj; omega
    rcases hj2 with rfl | rfl
    · cases ho
      refine ⟨rfl, fun g x hx hp => ?_⟩
      clear hp
      simp only [fillAll, Act.put, List.setIfInBounds_toArray, List.set_cons_zero, List.set_cons_succ]
      refine chain_go ?_ (Wild.free_tells (HJ.out x (a_w2.trans hx)))
      simp [go_sem, execOp]
    · cases ho
      refine ⟨rfl, fun g x hx hp => ?_⟩
      have p25 : (isT (Tr.join b p r)) (g 14) x := hp _ (List.mem_of_getElem? (i := 0) rfl) (List.contains_iff_mem.1 (by kernel_rfl))
      clear hp
      simp only [fillAll, Act.put, List.setIfInBounds_toArray, List.set_cons_zero, List.set_cons_succ]
      refine chain_go ?_ (Wild.free_tells (HE.out _ _ (a_w2.trans hx) p25))
      simp [go_sem, execOp]
  case htail =>
    intro g u hst hne
    have b_w3 : AnyLater w2 (later u) := ⟨u, rfl⟩
    generalize later u = w3 at *
    clear u hne
    obtain ⟨p25_w3, -⟩ := hst _ (List.mem_of_getElem? (i := 0) rfl)
    (try dsimp only at p25_w3)
    obtain ⟨p26_w3, -⟩ := hst _ (List.mem_of_getElem? (i := 1) rfl)
    (try dsimp only at p26_w3)
    clear hst
    simp only [fillAll, Act.put, List.setIfInBounds_toArray, List.set_cons_zero, List.set_cons_succ, List.drop_succ_cons, List.drop_zero, List.drop_nil]
    generalize g 14 = v25 at *
    generalize g 15 = v26 at *
    have z_w3 := b_w3.below.size
    have a_w3 := a_w2.trans b_w3
    have s0_w3 := any_own b_w3 s0_w2
    have s1_w3 := any_own b_w3 s1_w2
    have r0_w3 := own_row s0_w3
    have f0_w3 := own_free s0_w3
    have l0_w3 := own_lt s0_w3
    have r1_w3 := own_row s1_w3
    have f1_w3 := own_free s1_w3
    have l1_w3 := own_lt s1_w3
    (try clear r0_w2); (try clear f0_w2)
    (try clear r1_w2); (try clear f1_w2)
    go_wp2_with fail
    go_ret
    exact ⟨_, rfl, a_w3, p26_w3⟩
set_option maxRecDepth 100000 in
set_option maxHeartbeats 1600000 in
theorem join_right (N : Nat) (ih : JoinsTo N) (l a b : Tr) (q p : Pc) (v lv bv fv : Value) (w : World) (hN : l.np + a.np ≤ N) (h : IsT w (.node a q b) v) (hl : IsT w l lv) (hp : RIsP w bv fv p) (hF : (Tr.node a q b).Fair) (fp : p.Fair) (fl : l.Fair) (hn : l.len + p.b.length + (Tr.node a q b).len ≤ 90000) (c1 : ¬ (Tr.node a q b).lev + 2 < l.lev) (c2 : l.lev + 2 < (Tr.node a q b).lev) :
    Calls Tryz.prog 58 #[lv, pcV bv fv p, v] w (Ans (isT (Tr.even (Tr.join l p a) q b)) w) := by
  have v1 := Tr.lev_small hF (by omega)
  have v2 := Tr.lev_small fl (by omega)
  have hn2 : l.len + p.b.length + (a.len + q.b.length + b.len) ≤ 90000 := hn
  have HD := Lib.hid (fun (w' : World) (e : AnyLater w w') => deeper_any l (.node a q b) lv v w' false (by simpa using c1) (hl.later e) (h.later e) v2 v1)
  have HD2 := Lib.hid (fun (w' : World) (e : AnyLater w w') => deeper_any (.node a q b) l v lv w' true (by simpa using c2) (h.later e) (hl.later e) v1 v2)
  obtain ⟨fa, fq, fb⟩ := hF
  obtain ⟨k, iv, rv, qv, gv, rfl, hk, ha, hb, hq⟩ := h
  have HJ := Lib.hid (fun (w' : World) (e : AnyLater w w') => ih l a p lv iv bv fv w' _ hN rfl (hl.later e) (ha.later e) (hp.later e) fl fp fa (by omega))
  have HE := Lib.hid (fun (w' : World) (u : Value) (e : AnyLater w w') (hu : isT (Tr.join l p a) u w') => even_any (Tr.join l p a) b q u rv qv gv w' _ rfl hu (hb.later e) (hq.later e) (Tr.fair_join fl fp fa) fq fb (by rw [Tr.len_join]; omega))
  have HK := Lib.hid hk
  obtain ⟨A, cap, rfl, -⟩ := hp.1.form
  obtain ⟨A2, cap2, rfl, -⟩ := hp.2.form
  obtain ⟨A3, cap3, rfl, -⟩ := hq.1.form
  obtain ⟨A4, cap4, rfl, -⟩ := hq.2.form
  unfold nodeC at HK
  unfold pcV at HJ HE ⊢
  clear ha hb hq hl hp hk hn hn2 hN ih v1 v2 c1 c2
  generalize p.b.length = n at *
  generalize p.fs.length = m at *
  generalize p.base = b0 at *
  generalize q.b.length = n2 at *
  generalize q.fs.length = m2 at *
  generalize q.base = b1 at *
  go_enter Tryz.func58, Tryz.ntmps58
  go_wp2_with fail
  first | refine settle_wp (fun wS => AnyLater w wS ∧ wS.heap[w.heap.size]? = some (.cells #[.slice A n cap, .slice A2 m cap2, .int .i64 b0] 94)) ?_ ?_ | refine settle_calls (fun wS => AnyLater w wS ∧ wS.heap[w.heap.size]? = some (.cells #[.slice A n cap, .slice A2 m cap2, .int .i64 b0] 94)) ?_ ?_
  · refine ⟨?_, ?_⟩
    · repeat' (first | with_reducible assumption | with_reducible exact AnyLater.refl _ | with_reducible apply AnyLater.setCell | with_reducible apply AnyLater.later | with_reducible apply AnyLater.drewN | with_reducible apply AnyLater.drew | with_reducible apply AnyLater.alloc | ((try simp only [World.size_alloc, World.size_setCell, World.size_drew]); (try dsimp only); omega))
    · ((repeat (first | with_reducible assumption | ((with_reducible apply heap_new); (try simp only [World.size_alloc, World.size_setCell, World.size_drew, World.heap_drewN]); done) | ((with_reducible apply heap_new); (try simp only [World.size_alloc, World.size_setCell, World.size_drew, World.heap_drewN]); omega) | (with_reducible refine heap_old (by (try simp only [World.size_alloc, World.size_setCell, World.size_drew, World.heap_drewN]); omega) ?_) | (with_reducible refine heap_drew ?_) | (with_reducible refine heap_far (by omega) ?_) | (with_reducible apply heap_at))); all_goals rfl)
  rintro w1 ⟨b_w1, s0_w1⟩
  have a_w1 := b_w1
  have r0_w1 := own_row s0_w1
  have f0_w1 := own_free s0_w1
  have l0_w1 := own_lt s0_w1
  have z_w1 := b_w1.below.size
  have s1_w1 := any_own a_w1 HK.out
  refine (HD.out _ (by assumption)).mono ?_
  rintro e w2 ⟨rfl, b_w2⟩
  have z_w2 := b_w2.below.size
  have a_w2 := a_w1.trans b_w2
  have s0_w2 := any_own b_w2 s0_w1
  have s1_w2 := any_own b_w2 s1_w1
  have r0_w2 := own_row s0_w2
  have f0_w2 := own_free s0_w2
  have l0_w2 := own_lt s0_w2
  have r1_w2 := own_row s1_w2
  have f1_w2 := own_free s1_w2
  have l1_w2 := own_lt s1_w2
  (try clear r0_w1); (try clear f0_w1)
  (try clear r1_w1); (try clear f1_w1)
  go_wp2_with fail
  refine (HD2.out _ (by assumption)).mono ?_
  rintro e w3 ⟨rfl, b_w3⟩
  have z_w3 := b_w3.below.size
  have a_w3 := a_w2.trans b_w3
  have s0_w3 := any_own b_w3 s0_w2
  have s1_w3 := any_own b_w3 s1_w2
  have r0_w3 := own_row s0_w3
  have f0_w3 := own_free s0_w3
  have l0_w3 := own_lt s0_w3
  have r1_w3 := own_row s1_w3
  have f1_w3 := own_free s1_w3
  have l1_w3 := own_lt s1_w3
  (try clear r0_w2); (try clear f0_w2)
  (try clear r1_w2); (try clear f1_w2)
  go_wp2_with fail
  apply Wild.wp_region_free (16) [⟨6, 37, undef, true, isT (Tr.join l p a)⟩, ⟨15, 46, undef, true, isT (Tr.even (Tr.join l p a) q b)⟩] [⟨6, 37, isT (Tr.join l p a)⟩, ⟨15, 46, isT (Tr.even (Tr.join l p a) q b)⟩] rfl (by kernel_rfl) (by kernel_rfl) (by kernel_rfl) (by simp) (by kernel_rfl)
  case hstab =>
    intro c hc
    simp only [List.mem_cons, List.not_mem_nil, or_false] at hc
    rcases hc with rfl | rfl
    · intro v x y hxy hv; exact isT_stays hxy hv
    · intro v x y hxy hv; exact isT_stays hxy hv
  case hfix =>
    intro c hc
    simp only [List.mem_cons, List.not_mem_nil, or_false] at hc
    rcases hc with rfl | rfl
    · exact .inl rfl
    · exact .inl rfl
  case hlex =>
    intro U hU
    have q0 := own_row (any_own hU s0_w3)
    have q1 := own_row (any_own hU s1_w3)
    simp only [List.map_cons, List.map_nil, CA.act, actFrom, actOp, List.lookup, Nat.reduceBEq, Nat.reduceLeDiff, Nat.reduceAdd, if_false, if_true]
    repeat (go_big_quiet_step (fail))
    exact wpQuiet_nil rfl
  case hstep =>
    intro j hj o ho
    have hj2 : j = 0 ∨ j = 1 := by simp at hj; omega
    rcases hj2 with rfl | rfl
    · cases ho
      refine ⟨rfl, fun g x hx hp => ?_⟩
      clear hp
      simp only [fillAll, Act.put, List.setIfInBounds_toArray, List.set_cons_zero, List.set_cons_succ]
      refine chain_go ?_ (Wild.free_tells (HJ.out x (a_w3.trans hx)))
      simp [go_sem, execOp]
    · cases ho
      refine ⟨rfl, fun g x hx hp => ?_⟩
      have p37 : (isT (Tr.join l p a)) (g 6) x := hp _ (List.mem_of_getElem? (i := 0) rfl) (List.contains_iff_mem.1 (by kernel_rfl))
      clear hp
      simp only [fillAll, Act.put, List.setIfInBounds_toArray, List.set_cons_zero, List.set_cons_succ]
      refine chain_go ?_ (Wild.free_tells (HE.out _ _ (a_w3.trans hx) p37))
      simp [go_sem, execOp]
  case htail =>
    intro g u hst hne
    have b_w4 : AnyLater w3 (later u) := ⟨u, rfl⟩
    generalize later u = w4 at *
    clear u hne
    obtain ⟨p37_w4, -⟩ := hst _ (List.mem_of_getElem? (i := 0) rfl)
    (try dsimp only at p37_w4)
    obtain ⟨p46_w4, -⟩ := hst _ (List.mem_of_getElem? (i := 1) rfl)
    (try dsimp only at p46_w4)
    clear hst
    simp only [fillAll, Act.put, List.setIfInBounds_toArray, List.set_cons_zero, List.set_cons_succ, List.drop_succ_cons, List.drop_zero, List.drop_nil]
    generalize g 6 = v37 at *
    generalize g 15 = v46 at *
    have z_w4 := b_w4.below.size
    have a_w4 := a_w3.trans b_w4
    have s0_w4 := any_own b_w4 s0_w3
    have s1_w4 := any_own b_w4 s1_w3
    have r0_w4 := own_row s0_w4
    have f0_w4 := own_free s0_w4
    have l0_w4 := own_lt s0_w4
    have r1_w4 := own_row s1_w4
    have f1_w4 := own_free s1_w4
    have l1_w4 := own_lt s1_w4
    (try clear r0_w3); (try clear f0_w3)
    (try clear r1_w3); (try clear f1_w3)
    go_wp2_with fail
    go_ret
    exact ⟨_, rfl, a_w4, p46_w4⟩
theorem joins (n : Nat) : JoinsTo n := by
  induction n with
  | zero =>
    intro l r p lv rv bv fv w t hN ht hl hr hp fl fp fr hn
    subst ht
    have h3 := Tr.lev_le l
    have h4 := Tr.lev_le r
    rw [Tr.join_tie _ _ _ (by omega) (by omega)]
    exact join_tied l r p lv rv bv fv w hl hr hp fl fr hn (by omega) (by omega)
  | succ n ih =>
    intro l r p lv rv bv fv w t hN ht hl hr hp fl fp fr hn
    subst ht
    by_cases c1 : r.lev + 2 < l.lev
    · cases l with
      | nil => simp [Tr.lev] at c1
      | node a q b =>
        rw [Tr.join_left _ _ _ _ _ c1]
        exact join_left n ih a b r q p lv rv bv fv w (by simp only [Tr.np] at hN; omega) hl hr hp fl fp fr hn c1
    · by_cases c2 : l.lev + 2 < r.lev
      · cases r with
        | nil => simp [Tr.lev] at c2
        | node a q b =>
          rw [Tr.join_right _ _ _ _ _ c1 c2]
          exact join_right n ih l a b q p rv lv bv fv w (by simp only [Tr.np] at hN; omega) hr hl hp fr fp fl hn c1 c2
      · rw [Tr.join_tie _ _ _ c1 c2]
        exact join_tied l r p lv rv bv fv w hl hr hp fl fr hn c1 c2
/-- a piece between two parts, however deep each is -/
theorem rjoin_any (l r : Tr) (p : Pc) (lv rv bv fv : Value) (w : World) (t : Tr) (ht : Tr.join l p r = t) (hl : IsT w l lv) (hr : IsT w r rv) (hp : RIsP w bv fv p) (fl : l.Fair) (fp : p.Fair) (fr : r.Fair) (hn : l.len + p.b.length + r.len ≤ 90000) :
    Calls Tryz.prog 58 #[lv, pcV bv fv p, rv] w (Ans (isT t) w) := joins _ l r p lv rv bv fv w t (Nat.le_refl _) ht hl hr hp fl fp fr hn
end Go.Proofs.YtiicaldnegcdiaaGreat
