/- metric: MetricNear. -/
import Derived.Test.YteplnejnhgmfiaaDoorMetS
import Derived.Test.YteplnejnhgmfiaaDoorMetK
import Derived.Test.YteplnejnhgmfiaaDoorWild
namespace Go.Proofs.YteplnejnhgmfiaaDoor
set_option linter.unusedSimpArgs false
set_option linter.unusedVariables false
set_option linter.unusedSectionVars false
open Go.RowKit

/-- a pointer at that row -/
def AtLd (q : Ld) (u : Value) (w : World) : Prop := ∃ b off a1 k1 a2 k2, u = .pointer (some ⟨b, off, none⟩) ∧ b < w.heap.size ∧ (FR celF w (.slice a1 q.cs.length k1) q.cs ∧ RI w (.slice a2 q.xs.length k2) q.xs) ∧
    w.cell? ⟨b, off, none⟩ = some (.slice a1 q.cs.length k1) ∧ w.cell? ⟨b, off + 1, none⟩ = some (.slice a2 q.xs.length k2) ∧
    w.cell? ⟨b, off + 2, none⟩ = some (.int .i64 q.up) ∧ w.cell? ⟨b, off + 3, none⟩ = some (.int .i64 q.dn) ∧
    w.cell? ⟨b, off + 4, none⟩ = some (.int .i64 q.fr) ∧ w.cell? ⟨b, off + 5, none⟩ = some (.int .i64 q.en) ∧ w.cell? ⟨b, off + 6, none⟩ = some (.bool q.la)
theorem AtLd.later {q : Ld} {u : Value} {w w' : World} (h : AtLd q u w) (a : AnyLater w w') : AtLd q u w' := by
  obtain ⟨b, off, a1, k1, a2, k2, e, hb, ⟨h1, h2⟩, c0, c1, c2, c3, c4, c5, c6⟩ := h
  exact ⟨b, off, a1, k1, a2, k2, e, Nat.lt_of_lt_of_le hb a.below.size, ⟨h1.later a, h2.later a⟩, (a.below.cell hb).trans c0, (a.below.cell hb).trans c1, (a.below.cell hb).trans c2, (a.below.cell hb).trans c3, (a.below.cell hb).trans c4, (a.below.cell hb).trans c5, (a.below.cell hb).trans c6⟩
/-- that row itself -/
def AsLd (q : Ld) (u : Value) (w : World) : Prop := ∃ a1 k1 a2 k2, u = .agg #[.slice a1 q.cs.length k1, .slice a2 q.xs.length k2, .int .i64 q.up, .int .i64 q.dn, .int .i64 q.fr, .int .i64 q.en, .bool q.la] ∧ FR celF w (.slice a1 q.cs.length k1) q.cs ∧ RI w (.slice a2 q.xs.length k2) q.xs
theorem AsLd.later {q : Ld} {u : Value} {w w' : World} (h : AsLd q u w) (a : AnyLater w w') : AsLd q u w' := by
  obtain ⟨a1, k1, a2, k2, e, h1, h2⟩ := h
  exact ⟨a1, k1, a2, k2, e, h1.later a, h2.later a⟩
/-- the first row of a slice of rows -/
theorem LR.first {w : World} {v : Value} {q : Ld} (h : LR w v [q]) : ∃ b off cap, v = .slice (some ⟨b, off, none⟩) 1 cap ∧ AtLd q (.pointer (some ⟨b, off, none⟩)) w := by
  obtain ⟨A, cap, rfl, -⟩ := h.form
  obtain ⟨b, off, a1, k1, a2, k2, rfl, hb, hx, c0, c1, c2, c3, c4, c5, c6⟩ := ldAt h 0 (by simp)
  rw [Nat.zero_mul, Nat.add_zero] at c0 c1 c2 c3 c4 c5 c6
  exact ⟨b, off, cap, rfl, b, off, a1, k1, a2, k2, rfl, hb, hx, c0, c1, c2, c3, c4, c5, c6⟩
set_option maxRecDepth 100000 in
set_option maxHeartbeats 1600000 in
theorem metricNear_any (W : World) (a1 a2 : Option Addr) (k1 k2 : Nat) (r : Ld) (x : Int) (hc : FR celF W (.slice a1 r.cs.length k1) r.cs) (hxs : RI W (.slice a2 r.xs.length k2) r.xs) (hok : LdOk r) (hx : I64s x) (hg : GlobU W) :
    Calls Tryd.prog 5 #[.agg #[.slice a1 r.cs.length k1, .slice a2 r.xs.length k2, .int .i64 r.up, .int .i64 r.dn, .int .i64 r.fr, .int .i64 r.en, .bool r.la], .int .i64 x] W fun e w' => e = .returned (.bool true) ∧ AnyLater W w' := by
  have HF0 := Lib.hid (fun w v (h : LR w v [r]) => mfew_any v [r] w h)
  obtain ⟨q, hq⟩ : ∃ q, fewLd r = q := ⟨_, rfl⟩
  have e1 : fewL [r] = [q] := by rw [← hq]; rfl
  have hqo : LdOk q := by rw [← hq]; exact fewLd_ok hok
  have hqs : q.cs.length ≤ 60 ∧ q.xs.length ≤ 70 := by rw [← hq]; unfold fewLd; simp only [List.length_take]; omega
  rw [e1] at HF0
  have HF : Hid (∀ w v, LR w v [q] → Calls Tryd.prog 15 #[v] w fun e w' => ∃ u, e = .returned u ∧ AnyLater w w' ∧ LR w' u [q]) := Lib.hid (fun w v h => by
    have := mfew_any v [q] w h
    rw [fewL_same (by simp) (by intro y hy; rw [List.mem_singleton] at hy; subst hy; exact hqs)] at this
    exact this.mono fun _ _ ⟨u, k1, k2, k3⟩ => ⟨u, k1, k2, k3.lr⟩)
  obtain ⟨c, hcc⟩ : ∃ c, nearL q x = c := ⟨_, rfl⟩
  have HNE : Hid (∀ w u, AsLd q u w → Calls Tryd.prog 22 #[u, .int .i64 x] w fun e w' => e = .returned (.int .i64 c) ∧ AnyLater w w') := Lib.hid (fun w u h => by
    obtain ⟨a1, k1, a2, k2, rfl, h1, h2⟩ := h
    exact mnear_any a1 a2 k1 k2 q x w c hcc h1 h2 hqo (by omega) (by omega) hx)
  have HXN := Lib.hid (fun w a1 k1 a2 k2 h1 h2 => xnear_any a1 a2 k1 k2 q x w c hcc h1 h2 hqo (by omega) (by omega) hx)
  have HLv := Lib.hid (fun w (a : AnyLater W w) => mlives_any w (hg.later a))
  obtain ⟨n1, hn1⟩ : ∃ n1, r.cs.length = n1 := ⟨_, rfl⟩
  obtain ⟨n2, hn2⟩ : ∃ n2, r.xs.length = n2 := ⟨_, rfl⟩
  have HC := Lib.hid (And.intro hc hxs)
  have HN := Lib.hid (And.intro hn1 hn2)
  rw [hn1, hn2]
  obtain ⟨y1, y2⟩ := hx
  clear hc hxs hok hg hq e1 hqo hqs hcc hn1 hn2
  go_enter Tryd.func5, Tryd.ntmps5
  go_wp2_with fail
  have aA : AnyLater W ((W.alloc (.cells #[.slice a1 n1 k1, .slice a2 n2 k2, .int .i64 r.up, .int .i64 r.dn, .int .i64 r.fr, .int .i64 r.en, .bool r.la] 43)).alloc (.cells #[.slice a1 n1 k1, .slice a2 n2 k2, .int .i64 r.up, .int .i64 r.dn, .int .i64 r.fr, .int .i64 r.en, .bool r.la] 43)) := ((AnyLater.refl W).alloc _).alloc _
  have hlr : LR ((W.alloc (.cells #[.slice a1 n1 k1, .slice a2 n2 k2, .int .i64 r.up, .int .i64 r.dn, .int .i64 r.fr, .int .i64 r.en, .bool r.la] 43)).alloc (.cells #[.slice a1 n1 k1, .slice a2 n2 k2, .int .i64 r.up, .int .i64 r.dn, .int .i64 r.fr, .int .i64 r.en, .bool r.la] 43)) (.slice (some ⟨W.heap.size + 1, 0, none⟩) 1 1) [r] := by
    have hb : ((W.alloc (.cells #[.slice a1 n1 k1, .slice a2 n2 k2, .int .i64 r.up, .int .i64 r.dn, .int .i64 r.fr, .int .i64 r.en, .bool r.la] 43)).alloc (.cells #[.slice a1 n1 k1, .slice a2 n2 k2, .int .i64 r.up, .int .i64 r.dn, .int .i64 r.fr, .int .i64 r.en, .bool r.la] 43)).heap[W.heap.size + 1]? = some (.cells (ldF.fl ⟨a1, n1, k1, a2, n2, k2, r.up, r.dn, r.fr, r.en, r.la⟩).toArray 43) := heap_new (by simp)
    refine ⟨[⟨a1, n1, k1, a2, n2, k2, r.up, r.dn, r.fr, r.en, r.la⟩], OF.fr (OF.one (B := 0) (Nat.zero_le _) hb), rfl, fun j h h' => ?_⟩
    obtain rfl : j = 0 := by simp at h; exact h
    refine ⟨?_, rfl, rfl, rfl, rfl, rfl⟩
    have h1 := HC.out.1.later aA
    have h2 := HC.out.2.later aA
    rw [HN.out.1] at h1
    rw [HN.out.2] at h2
    exact ⟨h1, h2⟩
  have H1 := Lib.hid (And.intro aA hlr)
  clear aA hlr
  refine (HF0.out _ _ H1.out.2).mono ?_
  rintro e w1 ⟨u1, rfl, b1, o1⟩
  have H2 := Lib.hid (And.intro (H1.out.1.trans b1) o1.lr)
  have a_w1 := H1.out.1.trans b1
  clear b1 o1
  obtain ⟨b, off, cap, rfl, hat⟩ := H2.out.2.first
  obtain ⟨b', off', a3, k3, a4, k4, e', hb, hxx, c0, c1, c2, c3, c4, c5, c6⟩ := hat
  obtain ⟨rfl, rfl⟩ : b' = b ∧ off' = off := by cases e'; exact ⟨rfl, rfl⟩
  have HX := Lib.hid hxx
  clear hxx e' hb
  go_wp2_with fail
  apply Wild.wp_region_free (16) [⟨1, 10, undef, true, fun u w => LR w u [q]⟩, ⟨2, 11, undef, true, AtLd q⟩, ⟨3, 12, undef, true, AsLd q⟩, ⟨5, 14, .int .i64 c, false, fun v _ => v = .int .i64 c⟩, ⟨10, 19, .int .i64 c, false, fun v _ => v = .int .i64 c⟩, ⟨13, 22, .bool true, false, fun v _ => v = .bool true⟩] [⟨1, 10, fun u w => LR w u [q]⟩, ⟨2, 11, AtLd q⟩, ⟨3, 12, AsLd q⟩] rfl (by kernel_rfl) (by kernel_rfl) (by kernel_rfl) (by simp) (by kernel_rfl)
  case hstab =>
    intro c hc
    simp only [List.mem_cons, List.not_mem_nil, or_false] at hc
    rcases hc with rfl | rfl | rfl | rfl | rfl | rfl
    · intro v x y hxy hv; exact (fun h k => LR.later k h) hxy hv
    · intro v x y hxy hv; exact (fun h k => AtLd.later k h) hxy hv
    · intro v x y hxy hv; exact (fun h k => AsLd.later k h) hxy hv
    · intro v x y hxy hv; exact hv
    · intro v x y hxy hv; exact hv
    · intro v x y hxy hv; exact hv
  case hfix =>
    intro c hc
    simp only [List.mem_cons, List.not_mem_nil, or_false] at hc
    rcases hc with rfl | rfl | rfl | rfl | rfl | rfl
    · exact .inl rfl
    · exact .inl rfl
    · exact .inl rfl
    · exact .inr fun u x h => h
    · exact .inr fun u x h => h
    · exact .inr fun u x h => h
  case hlex =>
    intro U hU
    have q_c0 := cell_on hU c0
    have q_c1 := cell_on hU c1
    have q_c2 := cell_on hU c2
    have q_c3 := cell_on hU c3
    have q_c4 := cell_on hU c4
    have q_c5 := cell_on hU c5
    have q_c6 := cell_on hU c6
    simp only [List.map_cons, List.map_nil, CA.act, actFrom, actOp, List.lookup, Nat.reduceBEq, Nat.reduceLeDiff, Nat.reduceAdd, if_false, if_true]
    repeat (go_big_quiet_step (fail))
    exact wpQuiet_nil rfl
  case hstep =>
    intro j hj o ho
    have hj2 : j = 0 ∨ j = 1 ∨ j = 2 ∨ j = 3 ∨ j = 4 ∨ j = 5 := by simp at hj; omega
    rcases hj2 with rfl | rfl | rfl | rfl | rfl | rfl
    · cases ho
      refine ⟨rfl, fun g x hx hp => ?_⟩
      clear hp
      simp only [fillAll, Act.put, List.setIfInBounds_toArray, List.set_cons_zero, List.set_cons_succ]
      refine chain_go ?_ (Wild.free_tells (HF.out x _ (H2.out.2.later hx)))
      first | (simp [go_sem, execOp]; done) | simp [go_sem, execOp, hcf]
    · cases ho
      refine ⟨rfl, fun g x hx hp => ?_⟩
      have p10 : (fun u w => LR w u [q]) (g 1) x := hp _ (List.mem_of_getElem? (i := 0) rfl) (List.contains_iff_mem.1 (by kernel_rfl))
      clear hp
      simp only [fillAll, Act.put, List.setIfInBounds_toArray, List.set_cons_zero, List.set_cons_succ]
      (obtain ⟨b9, o9, k9, e9, h9⟩ := p10.first; refine Wild.free_is (v := .pointer (some ⟨b9, o9, none⟩)) ?_ h9; rw [e9]; simp [go_sem, execOp])
    · cases ho
      refine ⟨rfl, fun g x hx hp => ?_⟩
      have p11 : (AtLd q) (g 2) x := hp _ (List.mem_of_getElem? (i := 1) rfl) (List.contains_iff_mem.1 (by kernel_rfl))
      clear hp
      simp only [fillAll, Act.put, List.setIfInBounds_toArray, List.set_cons_zero, List.set_cons_succ]
      (obtain ⟨b9, o9, m1, j1, m2, j2, e9, h9, hh, q0, q1, q2, q3, q4, q5, q6⟩ := p11; refine Wild.free_is (v := .agg #[.slice m1 q.cs.length j1, .slice m2 q.xs.length j2, .int .i64 q.up, .int .i64 q.dn, .int .i64 q.fr, .int .i64 q.en, .bool q.la]) ?_ ⟨m1, j1, m2, j2, rfl, hh⟩; rw [e9]; simp [go_sem, execOp, q0, q1, q2, q3, q4, q5, q6])
    · cases ho
      refine ⟨rfl, fun g x hx hp => ?_⟩
      have p12 : (AsLd q) (g 3) x := hp _ (List.mem_of_getElem? (i := 2) rfl) (List.contains_iff_mem.1 (by kernel_rfl))
      clear hp
      simp only [fillAll, Act.put, List.setIfInBounds_toArray, List.set_cons_zero, List.set_cons_succ]
      refine chain_go ?_ (Wild.free_fix (HNE.out x _ p12))
      first | (simp [go_sem, execOp]; done) | simp [go_sem, execOp, hcf]
    · cases ho
      refine ⟨rfl, fun g x hx hp => ?_⟩
      clear hp
      simp only [fillAll, Act.put, List.setIfInBounds_toArray, List.set_cons_zero, List.set_cons_succ]
      refine chain_go ?_ (Wild.free_fix (HXN.out x _ _ _ _ (HX.out.1.later hx) (HX.out.2.later hx)))
      first | (simp [go_sem, execOp]; done) | simp [go_sem, execOp, hcf]
    · cases ho
      refine ⟨rfl, fun g x hx hp => ?_⟩
      clear hp
      simp only [fillAll, Act.put, List.setIfInBounds_toArray, List.set_cons_zero, List.set_cons_succ]
      refine chain_go ?_ (Wild.free_fix (HLv.out x (a_w1.trans hx)))
      first | (simp [go_sem, execOp]; done) | simp [go_sem, execOp, hcf]
  case htail =>
    intro g u hst hne
    have b_w2 : AnyLater w1 (later u) := ⟨u, rfl⟩
    generalize later u = w2 at *
    clear u hne
    obtain ⟨p10_w2, -⟩ := hst _ (List.mem_of_getElem? (i := 0) rfl)
    (try dsimp only at p10_w2)
    obtain ⟨p11_w2, -⟩ := hst _ (List.mem_of_getElem? (i := 1) rfl)
    (try dsimp only at p11_w2)
    obtain ⟨p12_w2, -⟩ := hst _ (List.mem_of_getElem? (i := 2) rfl)
    (try dsimp only at p12_w2)
    clear hst
    simp only [fillAll, Act.put, List.setIfInBounds_toArray, List.set_cons_zero, List.set_cons_succ, List.drop_succ_cons, List.drop_zero, List.drop_nil]
    generalize g 1 = v10 at *
    generalize g 2 = v11 at *
    generalize g 3 = v12 at *
    have z_w2 := b_w2.below.size
    have a_w2 := a_w1.trans b_w2
    have c0_w2 := cell_on b_w2 c0
    have c1_w2 := cell_on b_w2 c1
    have c2_w2 := cell_on b_w2 c2
    have c3_w2 := cell_on b_w2 c3
    have c4_w2 := cell_on b_w2 c4
    have c5_w2 := cell_on b_w2 c5
    have c6_w2 := cell_on b_w2 c6
    go_wp2_with fail
    go_ret
    exact ⟨rfl, a_w2⟩
end Go.Proofs.YteplnejnhgmfiaaDoor
