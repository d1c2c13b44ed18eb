/- what the proof stands on: RopC RopD -/
import Derived.Test.YtamhnffokoejjaaGreatDoorKnaj
namespace Go.Proofs.YtamhnffokoejjaaGreatDoor
set_option linter.unusedSimpArgs false
set_option linter.unusedVariables false
set_option linter.unusedSectionVars false
open Go.RowKit
def Ans (is : Value → World → Prop) (w : World) (e : Ending) (w' : World) : Prop := ∃ u, e = .returned u ∧ AnyLater w w' ∧ is u w'
def isT (t : Tr) (v : Value) (w : World) : Prop := IsT w t v
theorem isT_stays {t : Tr} {v : Value} {w w' : World} (h : AnyLater w w') (s : isT t v w) : isT t v w' := IsT.later h s
set_option maxRecDepth 100000 in
theorem sumsOf_any (l r : Tr) (p : Pc) (lv rv bv fv : Value) (w : World) (hl : IsT w l lv) (hr : IsT w r rv) (hp : RIsP w bv fv p) (fl : l.Fair) (fr : r.Fair) (hn : (Tr.node l p r).len ≤ 90000) :
    Calls Tryz.prog 249 #[lv, pcV bv fv p, rv] w fun e w' => e = .returned (sumV (.node l p r)) ∧ AnyLater w w' := by
  have HL := Lib.hid (fun (w' : World) (a : AnyLater w w') => noted_any l lv w' (hl.later a))
  have HR := Lib.hid (fun (w' : World) (a : AnyLater w w') => noted_any r rv w' (hr.later a))
  obtain ⟨A, cap, rfl, hA⟩ := hp.1.form
  obtain ⟨A2, cap2, rfl, hA2⟩ := hp.2.form
  have b1 := l.np_le fl
  have b2 := r.np_le fr
  have b3 := l.lev_le
  have b4 := r.lev_le
  have b5 := l.nf_le
  have b6 := r.nf_le
  have b7 := feN_le p.b p.base
  have b8 : p.fs.length ≤ p.b.length := b7
  simp only [Tr.len] at hn
  unfold sumV at HL HR ⊢
  simp only [Tr.len, Tr.nf, Tr.np, Tr.lev]
  unfold pcV
  clear hl hr hp fl fr b7 hA hA2
  generalize l.len = a1 at *
  generalize l.nf = a2 at *
  generalize l.np = a3 at *
  generalize l.lev = a4 at *
  generalize r.len = c1 at *
  generalize r.nf = c2 at *
  generalize r.np = c3 at *
  generalize r.lev = c4 at *
  generalize p.b.length = n at *
  generalize p.fs.length = m at *
  obtain ⟨M, hM⟩ : ∃ M, max a4 c4 = M := ⟨_, rfl⟩
  have hM2 : M ≤ 90000 := by omega
  have HMx : ∀ (w : World) ts t, (Builtin.max_ ts t #[.int .i64 (a4 : Int), .int .i64 (c4 : Int)]).run Tryz.prog w = .ok (.int .i64 (M : Int)) w := fun w ts t => by rw [run_maxN, hM]
  rw [hM]
  clear hM b3 b4
  go_enter Tryz.func249, Tryz.ntmps249
  go_wp2_with fail
  first | refine settle_wp (fun wS => AnyLater w wS ∧ wS.heap[w.heap.size]? = some (.cells #[.slice A n cap, .slice A2 m cap2, .int .i64 p.base] 191) ∧ wS.heap[w.heap.size + 1]? = some (.cells #[.int .i64 0, .int .i64 0, .int .i64 0, .int .i64 0] 157)) ?_ ?_ | refine settle_calls (fun wS => AnyLater w wS ∧ wS.heap[w.heap.size]? = some (.cells #[.slice A n cap, .slice A2 m cap2, .int .i64 p.base] 191) ∧ wS.heap[w.heap.size + 1]? = some (.cells #[.int .i64 0, .int .i64 0, .int .i64 0, .int .i64 0] 157)) ?_ ?_
  · refine ⟨?_, ?_, ?_⟩
    · repeat' (first | with_reducible assumption | with_reducible exact AnyLater.refl _ | with_reducible apply AnyLater.setCell | with_reducible apply AnyLater.later | with_reducible apply AnyLater.drewN | with_reducible apply AnyLater.drew | with_reducible apply AnyLater.alloc | ((try simp only [World.size_alloc, World.size_setCell, World.size_drew]); (try dsimp only); omega))
    · ((repeat (first | with_reducible assumption | ((with_reducible apply heap_new); (try simp only [World.size_alloc, World.size_setCell, World.size_drew, World.heap_drewN]); done) | ((with_reducible apply heap_new); (try simp only [World.size_alloc, World.size_setCell, World.size_drew, World.heap_drewN]); omega) | (with_reducible refine heap_old (by (try simp only [World.size_alloc, World.size_setCell, World.size_drew, World.heap_drewN]); omega) ?_) | (with_reducible refine heap_drew ?_) | (with_reducible refine heap_far (by omega) ?_) | (with_reducible apply heap_at))); all_goals rfl)
    · ((repeat (first | with_reducible assumption | ((with_reducible apply heap_new); (try simp only [World.size_alloc, World.size_setCell, World.size_drew, World.heap_drewN]); done) | ((with_reducible apply heap_new); (try simp only [World.size_alloc, World.size_setCell, World.size_drew, World.heap_drewN]); omega) | (with_reducible refine heap_old (by (try simp only [World.size_alloc, World.size_setCell, World.size_drew, World.heap_drewN]); omega) ?_) | (with_reducible refine heap_drew ?_) | (with_reducible refine heap_far (by omega) ?_) | (with_reducible apply heap_at))); all_goals rfl)
  rintro w1 ⟨b_w1, s0_w1, s1_w1⟩
  have a_w1 := b_w1
  have r0_w1 := own_row s0_w1
  have f0_w1 := own_free s0_w1
  have l0_w1 := own_lt s0_w1
  have r1_w1 := own_row s1_w1
  have f1_w1 := own_free s1_w1
  have l1_w1 := own_lt s1_w1
  have z_w1 := b_w1.below.size
  refine (HL.out _ (by assumption)).mono ?_
  rintro e w2 ⟨rfl, b_w2⟩
  have z_w2 := b_w2.below.size
  have a_w2 := a_w1.trans b_w2
  have s0_w2 := any_own b_w2 s0_w1
  have s1_w2 := any_own b_w2 s1_w1
  have r0_w2 := own_row s0_w2
  have f0_w2 := own_free s0_w2
  have l0_w2 := own_lt s0_w2
  have r1_w2 := own_row s1_w2
  have f1_w2 := own_free s1_w2
  have l1_w2 := own_lt s1_w2
  (try clear r0_w1); (try clear f0_w1)
  (try clear r1_w1); (try clear f1_w1)
  go_wp2_with fail
  refine (HR.out _ (by assumption)).mono ?_
  rintro e w3 ⟨rfl, b_w3⟩
  have z_w3 := b_w3.below.size
  have a_w3 := a_w2.trans b_w3
  have s0_w3 := any_own b_w3 s0_w2
  have s1_w3 := any_own b_w3 s1_w2
  have r0_w3 := own_row s0_w3
  have f0_w3 := own_free s0_w3
  have l0_w3 := own_lt s0_w3
  have r1_w3 := own_row s1_w3
  have f1_w3 := own_free s1_w3
  have l1_w3 := own_lt s1_w3
  (try clear r0_w2); (try clear f0_w2)
  (try clear r1_w2); (try clear f1_w2)
  go_wp2_with fail
  refine bodyPost_ret (v := .agg #[.int .i64 ((a1 + n + c1 : Nat) : Int), .int .i64 ((a2 + m + c2 : Nat) : Int), .int .i64 ((a3 + 1 + c3 : Nat) : Int), .int .i64 ((1 + M : Nat) : Int)]) (by simp [results, Tryz.results249, go_sem, *]) rfl ⟨rfl, ?_⟩
  repeat' (first | with_reducible assumption | with_reducible exact AnyLater.refl _ | with_reducible apply AnyLater.setCell | with_reducible apply AnyLater.later | with_reducible apply AnyLater.drewN | with_reducible apply AnyLater.drew | with_reducible apply AnyLater.alloc | ((try simp only [World.size_alloc, World.size_setCell, World.size_drew]); (try dsimp only); omega))
theorem fld0 (a b c d : Int) (w : World) : (Instr.field 157 (.agg #[.int .i64 a, .int .i64 b, .int .i64 c, .int .i64 d]) 0).run Tryz.prog w = .ok (.int .i64 a) w := by kernel_rfl
theorem fld1 (a b c d : Int) (w : World) : (Instr.field 157 (.agg #[.int .i64 a, .int .i64 b, .int .i64 c, .int .i64 d]) 1).run Tryz.prog w = .ok (.int .i64 b) w := by kernel_rfl
theorem fld3 (a b c d : Int) (w : World) : (Instr.field 157 (.agg #[.int .i64 a, .int .i64 b, .int .i64 c, .int .i64 d]) 3).run Tryz.prog w = .ok (.int .i64 d) w := by kernel_rfl
set_option maxRecDepth 100000 in
theorem deeper_any (l r : Tr) (lv rv : Value) (w : World) (c : Bool) (hc : decide (r.lev + 2 < l.lev) = c) (hl : IsT w l lv) (hr : IsT w r rv) (h1 : l.lev ≤ 90000) (h2 : r.lev ≤ 90000) :
    Calls Tryz.prog 213 #[lv, rv] w fun e w' => e = .returned (.bool c) ∧ AnyLater w w' := by
  have HL := Lib.hid (fun (w' : World) (a : AnyLater w w') => noted_any l lv w' (hl.later a))
  have HR := Lib.hid (fun (w' : World) (a : AnyLater w w') => noted_any r rv w' (hr.later a))
  have HC : Hid (decide ((r.lev : Int) + 2 < (l.lev : Int)) = c) := Lib.hid (by rw [← hc]; simp only [decide_eq_decide]; omega)
  unfold sumV at HL HR
  clear hl hr hc
  generalize l.lev = a4 at *
  generalize r.lev = c4 at *
  have a0 := AnyLater.refl w
  have f3 := fld3
  go_enter Tryz.func213, Tryz.ntmps213
  go_wp2_with fail
  refine (HL.out _ a0).mono ?_
  rintro e w2 ⟨rfl, b2⟩
  go_wp2_with fail
  refine (HR.out _ b2).mono ?_
  rintro e w3 ⟨rfl, b3⟩
  go_wp2_with fail
  go_ret
  exact ⟨ret_bool HC.out, b2.trans b3⟩
set_option maxRecDepth 100000 in
theorem tie_any (l r : Tr) (p : Pc) (lv rv bv fv : Value) (w : World) (hl : IsT w l lv) (hr : IsT w r rv) (hp : RIsP w bv fv p) (fl : l.Fair) (fr : r.Fair) (hn : (Tr.node l p r).len ≤ 90000) :
    Calls Tryz.prog 215 #[lv, pcV bv fv p, rv] w (Ans (isT (.node l p r)) w) := by
  have HS := Lib.hid (fun (w' : World) (a : AnyLater w w') => sumsOf_any l r p lv rv bv fv w' (hl.later a) (hr.later a) (hp.later a) fl fr hn)
  have HT : Hid (∀ (w' : World) (k : Nat), AnyLater w w' → w'.heap[k]? = some (.cells (nodeC lv rv bv fv p (.node l p r)) 193) → isT (.node l p r) (.pointer (some ⟨k, 0, none⟩)) w') := Lib.hid (fun w' k a hk => ⟨k, lv, rv, bv, fv, rfl, hk, hl.later a, hr.later a, hp.later a⟩)
  obtain ⟨q1, rfl⟩ := hl.ptr
  obtain ⟨q2, rfl⟩ := hr.ptr
  obtain ⟨A, cap, rfl, hA⟩ := hp.1.form
  obtain ⟨A2, cap2, rfl, hA2⟩ := hp.2.form
  unfold nodeC at HT
  unfold sumV at HS
  unfold pcV at HS ⊢
  clear hl hr hp fl fr hn
  generalize (Tr.node l p r).len = a1 at *
  generalize (Tr.node l p r).nf = a2 at *
  generalize (Tr.node l p r).np = a3 at *
  generalize (Tr.node l p r).lev = a4 at *
  generalize p.b.length = n at *
  generalize p.fs.length = m at *
  generalize p.base = b0 at *
  go_enter Tryz.func215, Tryz.ntmps215
  go_wp2_with fail
  first | refine settle_wp (fun wS => AnyLater w wS ∧ wS.heap[w.heap.size]? = some (.cells #[.slice A n cap, .slice A2 m cap2, .int .i64 b0] 191)) ?_ ?_ | refine settle_calls (fun wS => AnyLater w wS ∧ wS.heap[w.heap.size]? = some (.cells #[.slice A n cap, .slice A2 m cap2, .int .i64 b0] 191)) ?_ ?_
  · refine ⟨?_, ?_⟩
    · repeat' (first | with_reducible assumption | with_reducible exact AnyLater.refl _ | with_reducible apply AnyLater.setCell | with_reducible apply AnyLater.later | with_reducible apply AnyLater.drewN | with_reducible apply AnyLater.drew | with_reducible apply AnyLater.alloc | ((try simp only [World.size_alloc, World.size_setCell, World.size_drew]); (try dsimp only); omega))
    · ((repeat (first | with_reducible assumption | ((with_reducible apply heap_new); (try simp only [World.size_alloc, World.size_setCell, World.size_drew, World.heap_drewN]); done) | ((with_reducible apply heap_new); (try simp only [World.size_alloc, World.size_setCell, World.size_drew, World.heap_drewN]); omega) | (with_reducible refine heap_old (by (try simp only [World.size_alloc, World.size_setCell, World.size_drew, World.heap_drewN]); omega) ?_) | (with_reducible refine heap_drew ?_) | (with_reducible refine heap_far (by omega) ?_) | (with_reducible apply heap_at))); all_goals rfl)
  rintro w1 ⟨b_w1, s0_w1⟩
  have a_w1 := b_w1
  have r0_w1 := own_row s0_w1
  have f0_w1 := own_free s0_w1
  have l0_w1 := own_lt s0_w1
  have z_w1 := b_w1.below.size
  apply wp_region_mem (8) [] (by kernel_rfl) (by kernel_rfl) (by simp)
  case hstab =>
    intro e he v x y hxy hv
    simp only [List.mem_cons, List.not_mem_nil, or_false] at he
  case hlex =>
    intro U
    have q0 := fun (v : Later (later U)) => own_row (any_own ⟨v, rfl⟩ (any_own ⟨U, rfl⟩ s0_w1))
    simp only [absFrom, absOp, idx, List.map_cons, List.map_nil, List.contains_cons, List.contains_nil, Nat.reduceBEq, Bool.or_false, Bool.false_or, Bool.true_or, Bool.or_true, Bool.false_eq_true, Nat.reduceLeDiff, Nat.reduceAdd, if_false, if_true]
    repeat (go_big_quiet_step ((go_at_call 249; exact in_later (HS.out _ (by repeat' (first | with_reducible assumption | with_reducible exact AnyLater.refl _ | with_reducible apply AnyLater.setCell | with_reducible apply AnyLater.later | with_reducible apply AnyLater.drewN | with_reducible apply AnyLater.drew | with_reducible apply AnyLater.alloc | ((try simp only [World.size_alloc, World.size_setCell, World.size_drew]); (try dsimp only); omega)))))))
    exact wpQuiet_nil rfl
  case hown =>
    intro e he o ho
    simp only [List.mem_cons, List.not_mem_nil, or_false] at he
  case htail =>
    intro g u hst hne
    have b_w2 : AnyLater w1 (later u) := ⟨u, rfl⟩
    generalize later u = w2 at *
    clear u
    clear hst hne
    simp only [fillAll, Act.put, List.setIfInBounds_toArray, List.set_cons_zero, List.set_cons_succ, List.drop_succ_cons, List.drop_zero]
    have z_w2 := b_w2.below.size
    have a_w2 := a_w1.trans b_w2
    have s0_w2 := any_own b_w2 s0_w1
    have r0_w2 := own_row s0_w2
    have f0_w2 := own_free s0_w2
    have l0_w2 := own_lt s0_w2
    (try clear r0_w1); (try clear f0_w1)
    go_wp2_with fail
    go_ret
    refine ⟨_, rfl, a_w2.alloc _, HT.out _ _ (a_w2.alloc _) (heap_new rfl)⟩
end Go.Proofs.YtamhnffokoejjaaGreatDoor
namespace Go.Proofs.YtamhnffokoejjaaGreatDoor
set_option linter.unusedSimpArgs false
set_option linter.unusedVariables false
set_option linter.unusedSectionVars false
open Go.RowKit
set_option maxRecDepth 100000 in
theorem ends_any (l r : Tr) (p : Pc) (v : Value) (w : World) (h : IsT w (.node l p r) v) (hn : (Tr.node l p r).len ≤ 90000) :
    Calls Tryz.prog 147 #[v] w fun e w' => e = .returned (.tuple #[.int .i64 (l.len : Int), .int .i64 ((l.len + p.b.length : Nat) : Int)]) ∧ AnyLater w w' := by
  obtain ⟨k, lv, rv, bv, fv, rfl, hk, hl, hr, hp⟩ := h
  have HL := Lib.hid (fun (w' : World) (a : AnyLater w w') => noted_any l lv w' (hl.later a))
  obtain ⟨A, cap, rfl, hA⟩ := hp.1.form
  have s0_w : w.heap[k]? = some (.cells (nodeC lv rv (.slice A p.b.length cap) fv p (.node l p r)) 193) := hk
  have r0 := own_row s0_w
  have HS := Lib.hid s0_w
  simp only [Tr.len] at hn
  unfold nodeC at r0 HS
  unfold sumV at HL
  have f0 := fld0
  clear hl hr hp hk s0_w
  generalize p.b.length = n at *
  generalize l.len = a1 at *
  go_enter Tryz.func147, Tryz.ntmps147
  go_wp2_with fail
  refine (HL.out _ (AnyLater.refl w)).mono ?_
  rintro e w2 ⟨rfl, b2⟩
  have HB := Lib.hid b2
  have r1 := own_row (any_own b2 HS.out)
  clear r0 b2
  go_wp2_with fail
  go_quiet (fail)
  go_wp2_with fail
  refine bodyPost_ret (v := .tuple #[.int .i64 (a1 : Int), .int .i64 ((a1 + n : Nat) : Int)]) (by simp [results, Tryz.results147, go_sem]) rfl ⟨rfl, ?_⟩
  exact HB.out.drewN _
set_option maxRecDepth 100000 in
set_option maxHeartbeats 1600000 in
theorem turnRight_flat (a i r : Tr) (q p : Pc) (v rv bv fv : Value) (w : World) (h : IsT w (.node a q i) v) (hr : IsT w r rv) (hp : RIsP w bv fv p) (hF : (Tr.node a q i).Fair) (fp : p.Fair) (fr : r.Fair) (hn : (Tr.node a q i).len + p.b.length + r.len ≤ 90000) (hlev : i.lev ≤ a.lev) :
    Calls Tryz.prog 247 #[v, pcV bv fv p, rv] w (Ans (isT (.node a q (.node i p r))) w) := by
  obtain ⟨fa, fq, fi⟩ := hF
  have hn2 : a.len + q.b.length + i.len + p.b.length + r.len ≤ 90000 := hn
  obtain ⟨k, lv, iv, qv, gv, rfl, hk, ha, hi, hq⟩ := h
  have HNa := Lib.hid (fun (w' : World) (b : AnyLater w w') => noted_any a lv w' (ha.later b))
  have HNi := Lib.hid (fun (w' : World) (b : AnyLater w w') => noted_any i iv w' (hi.later b))
  have HT1 := Lib.hid (fun (w' : World) (b : AnyLater w w') => tie_any i r p iv rv bv fv w' (hi.later b) (hr.later b) (hp.later b) fi fr (by unfold Tr.len; omega))
  have HT2 := Lib.hid (fun (w' : World) (u : Value) (b : AnyLater w w') (hu : isT (.node i p r) u w') => tie_any a (.node i p r) q lv u qv gv w' (ha.later b) hu (hq.later b) fa ⟨fi, fp, fr⟩ (by simp only [Tr.len]; omega))
  have HK := Lib.hid hk
  obtain ⟨A, cap, rfl, -⟩ := hp.1.form
  obtain ⟨A2, cap2, rfl, -⟩ := hp.2.form
  obtain ⟨A3, cap3, rfl, -⟩ := hq.1.form
  obtain ⟨A4, cap4, rfl, -⟩ := hq.2.form
  unfold nodeC at HK
  unfold sumV at HNa HNi
  unfold pcV at HT1 HT2 ⊢
  have d1 : ((i.lev : Nat) : Int) ≤ (a.lev : Int) := by omega
  have f3 := fld3
  clear ha hi hq hr hp hk hn hn2 hlev
  generalize a.lev = x1 at *
  generalize i.lev = x2 at *
  generalize p.b.length = n at *
  generalize p.fs.length = m at *
  generalize p.base = b0 at *
  generalize q.b.length = n2 at *
  generalize q.fs.length = m2 at *
  generalize q.base = b1 at *
  go_enter Tryz.func247, Tryz.ntmps247
  go_wp2_with fail
  first | refine settle_wp (fun wS => AnyLater w wS ∧ wS.heap[w.heap.size]? = some (.cells #[.slice A n cap, .slice A2 m cap2, .int .i64 b0] 191)) ?_ ?_ | refine settle_calls (fun wS => AnyLater w wS ∧ wS.heap[w.heap.size]? = some (.cells #[.slice A n cap, .slice A2 m cap2, .int .i64 b0] 191)) ?_ ?_
  · refine ⟨?_, ?_⟩
    · repeat' (first | with_reducible assumption | with_reducible exact AnyLater.refl _ | with_reducible apply AnyLater.setCell | with_reducible apply AnyLater.later | with_reducible apply AnyLater.drewN | with_reducible apply AnyLater.drew | with_reducible apply AnyLater.alloc | ((try simp only [World.size_alloc, World.size_setCell, World.size_drew]); (try dsimp only); omega))
    · ((repeat (first | with_reducible assumption | ((with_reducible apply heap_new); (try simp only [World.size_alloc, World.size_setCell, World.size_drew, World.heap_drewN]); done) | ((with_reducible apply heap_new); (try simp only [World.size_alloc, World.size_setCell, World.size_drew, World.heap_drewN]); omega) | (with_reducible refine heap_old (by (try simp only [World.size_alloc, World.size_setCell, World.size_drew, World.heap_drewN]); omega) ?_) | (with_reducible refine heap_drew ?_) | (with_reducible refine heap_far (by omega) ?_) | (with_reducible apply heap_at))); all_goals rfl)
  rintro w1 ⟨b_w1, s0_w1⟩
  have a_w1 := b_w1
  have r0_w1 := own_row s0_w1
  have f0_w1 := own_free s0_w1
  have l0_w1 := own_lt s0_w1
  have z_w1 := b_w1.below.size
  have s1_w1 := any_own a_w1 HK.out
  have r1_w1 := own_row s1_w1
  go_quiet (fail)
  go_wp2_with fail
  refine (HNa.out _ (a_w1.drewN _)).mono ?_
  rintro e w2 ⟨rfl, c2⟩
  have b_w2 : AnyLater w1 w2 := ((AnyLater.refl w1).drewN _).trans c2
  have z_w2 := b_w2.below.size
  have a_w2 := a_w1.trans b_w2
  have s0_w2 := any_own b_w2 s0_w1
  have s1_w2 := any_own b_w2 s1_w1
  have r0_w2 := own_row s0_w2
  have f0_w2 := own_free s0_w2
  have l0_w2 := own_lt s0_w2
  have r1_w2 := own_row s1_w2
  have f1_w2 := own_free s1_w2
  have l1_w2 := own_lt s1_w2
  (try clear r0_w1); (try clear f0_w1)
  (try clear r1_w1); (try clear f1_w1)
  clear c2
  go_wp2_with fail
  refine (HNi.out _ a_w2).mono ?_
  rintro e w3 ⟨rfl, b_w3⟩
  have z_w3 := b_w3.below.size
  have a_w3 := a_w2.trans b_w3
  have s0_w3 := any_own b_w3 s0_w2
  have s1_w3 := any_own b_w3 s1_w2
  have r0_w3 := own_row s0_w3
  have f0_w3 := own_free s0_w3
  have l0_w3 := own_lt s0_w3
  have r1_w3 := own_row s1_w3
  have f1_w3 := own_free s1_w3
  have l1_w3 := own_lt s1_w3
  (try clear r0_w2); (try clear f0_w2)
  (try clear r1_w2); (try clear f1_w2)
  go_wp2_with fail
  apply Wild.wp_region_free (10) [⟨8, 32, undef, true, isT (.node i p r)⟩, ⟨9, 33, undef, true, isT (.node a q (.node i p r))⟩] [⟨8, 32, isT (.node i p r)⟩, ⟨9, 33, isT (.node a q (.node i p r))⟩] rfl (by kernel_rfl) (by kernel_rfl) (by kernel_rfl) (by simp) (by kernel_rfl)
  case hstab =>
    intro c hc
    simp only [List.mem_cons, List.not_mem_nil, or_false] at hc
    rcases hc with rfl | rfl
    · intro v x y hxy hv; exact isT_stays hxy hv
    · intro v x y hxy hv; exact isT_stays hxy hv
  case hfix =>
    intro c hc
    simp only [List.mem_cons, List.not_mem_nil, or_false] at hc
    rcases hc with rfl | rfl
    · exact .inl rfl
    · exact .inl rfl
  case hlex =>
    intro U hU
    have q0 := own_row (any_own hU s0_w3)
    have q1 := own_row (any_own hU s1_w3)
    simp only [List.map_cons, List.map_nil, CA.act, actFrom, actOp, List.lookup, Nat.reduceBEq, Nat.reduceLeDiff, Nat.reduceAdd, if_false, if_true]
    repeat (go_big_quiet_step (fail))
    exact wpQuiet_nil rfl
  case hstep =>
    intro j hj o ho
    have hj2 : j = 0 ∨ j = 1 := by simp at hj; omega
    rcases hj2 with rfl | rfl
    · cases ho
      refine ⟨rfl, fun g x hx hp => ?_⟩
      clear hp
      simp only [fillAll, Act.put, List.setIfInBounds_toArray, List.set_cons_zero, List.set_cons_succ]
      refine chain_go ?_ (Wild.free_tells (HT1.out x (a_w3.trans hx)))
      first | (simp [go_sem, execOp]; done) | simp [go_sem, execOp, hcf]
    · cases ho
      refine ⟨rfl, fun g x hx hp => ?_⟩
      have p32 : (isT (.node i p r)) (g 8) x := hp _ (List.mem_of_getElem? (i := 0) rfl) (List.contains_iff_mem.1 (by kernel_rfl))
      clear hp
      simp only [fillAll, Act.put, List.setIfInBounds_toArray, List.set_cons_zero, List.set_cons_succ]
      refine chain_go ?_ (Wild.free_tells (HT2.out _ _ (a_w3.trans hx) p32))
      first | (simp [go_sem, execOp]; done) | simp [go_sem, execOp, hcf]
  case htail =>
    intro g u hst hne
    have b_w4 : AnyLater w3 (later u) := ⟨u, rfl⟩
    generalize later u = w4 at *
    clear u hne
    obtain ⟨p32_w4, -⟩ := hst _ (List.mem_of_getElem? (i := 0) rfl)
    (try dsimp only at p32_w4)
    obtain ⟨p33_w4, -⟩ := hst _ (List.mem_of_getElem? (i := 1) rfl)
    (try dsimp only at p33_w4)
    clear hst
    simp only [fillAll, Act.put, List.setIfInBounds_toArray, List.set_cons_zero, List.set_cons_succ, List.drop_succ_cons, List.drop_zero, List.drop_nil]
    generalize g 8 = v32 at *
    generalize g 9 = v33 at *
    have z_w4 := b_w4.below.size
    have a_w4 := a_w3.trans b_w4
    have s0_w4 := any_own b_w4 s0_w3
    have s1_w4 := any_own b_w4 s1_w3
    have r0_w4 := own_row s0_w4
    have f0_w4 := own_free s0_w4
    have l0_w4 := own_lt s0_w4
    have r1_w4 := own_row s1_w4
    have f1_w4 := own_free s1_w4
    have l1_w4 := own_lt s1_w4
    (try clear r0_w3); (try clear f0_w3)
    (try clear r1_w3); (try clear f1_w3)
    go_wp2_with fail
    go_ret
    exact ⟨_, rfl, a_w4, p33_w4⟩
set_option maxRecDepth 100000 in
set_option maxHeartbeats 1600000 in
theorem turnRight_steep (a b c r : Tr) (q s p : Pc) (v rv bv fv : Value) (w : World) (h : IsT w (.node a q (.node b s c)) v) (hr : IsT w r rv) (hp : RIsP w bv fv p) (hF : (Tr.node a q (.node b s c)).Fair) (fp : p.Fair) (fr : r.Fair) (hn : (Tr.node a q (.node b s c)).len + p.b.length + r.len ≤ 90000) (hlev : ¬ (Tr.node b s c).lev ≤ a.lev) :
    Calls Tryz.prog 247 #[v, pcV bv fv p, rv] w (Ans (isT (.node (.node a q b) s (.node c p r))) w) := by
  obtain ⟨fa, fq, fb, fs, fc⟩ := hF
  have hn2 : a.len + q.b.length + (b.len + s.b.length + c.len) + p.b.length + r.len ≤ 90000 := hn
  obtain ⟨k, lv, iv, qv, gv, rfl, hk, ha, hi, hq⟩ := h
  have HNa := Lib.hid (fun (w' : World) (b : AnyLater w w') => noted_any a lv w' (ha.later b))
  have HNi := Lib.hid (fun (w' : World) (e : AnyLater w w') => noted_any (.node b s c) iv w' (hi.later e))
  obtain ⟨k2, xv, yv, sv, tv, rfl, hk2, hb, hc, hs⟩ := hi
  have HT1 := Lib.hid (fun (w' : World) (e : AnyLater w w') => tie_any a b q lv xv qv gv w' (ha.later e) (hb.later e) (hq.later e) fa fb (by simp only [Tr.len]; omega))
  have HT2 := Lib.hid (fun (w' : World) (e : AnyLater w w') => tie_any c r p yv rv bv fv w' (hc.later e) (hr.later e) (hp.later e) fc fr (by simp only [Tr.len]; omega))
  have HT3 := Lib.hid (fun (w' : World) (u u2 : Value) (e : AnyLater w w') (hu : isT (.node a q b) u w') (hu2 : isT (.node c p r) u2 w') => tie_any (.node a q b) (.node c p r) s u u2 sv tv w' hu hu2 (hs.later e) ⟨fa, fq, fb⟩ ⟨fc, fp, fr⟩ (by simp only [Tr.len]; omega))
  have HK := Lib.hid (And.intro hk hk2)
  obtain ⟨A, cap, rfl, -⟩ := hp.1.form
  obtain ⟨A2, cap2, rfl, -⟩ := hp.2.form
  obtain ⟨A3, cap3, rfl, -⟩ := hq.1.form
  obtain ⟨A4, cap4, rfl, -⟩ := hq.2.form
  obtain ⟨A5, cap5, rfl, -⟩ := hs.1.form
  obtain ⟨A6, cap6, rfl, -⟩ := hs.2.form
  unfold nodeC at HK
  unfold sumV at HNa HNi
  unfold pcV at HT1 HT2 HT3 ⊢
  have d1 : decide ((Tr.node b s c).lev ≤ a.lev) = false := decide_eq_false (by omega)
  have f3 := fld3
  clear ha hq hr hp hk hn hn2 hlev hb hc hs hk2
  generalize a.lev = x1 at *
  generalize (Tr.node b s c).lev = x2 at *
  generalize p.b.length = n at *
  generalize p.fs.length = m at *
  generalize p.base = b0 at *
  generalize q.b.length = n2 at *
  generalize q.fs.length = m2 at *
  generalize q.base = b1 at *
  generalize s.b.length = n3 at *
  generalize s.fs.length = m3 at *
  generalize s.base = b3 at *
  go_enter Tryz.func247, Tryz.ntmps247
  go_wp2_with fail
  first | refine settle_wp (fun wS => AnyLater w wS ∧ wS.heap[w.heap.size]? = some (.cells #[.slice A n cap, .slice A2 m cap2, .int .i64 b0] 191)) ?_ ?_ | refine settle_calls (fun wS => AnyLater w wS ∧ wS.heap[w.heap.size]? = some (.cells #[.slice A n cap, .slice A2 m cap2, .int .i64 b0] 191)) ?_ ?_
  · refine ⟨?_, ?_⟩
    · repeat' (first | with_reducible assumption | with_reducible exact AnyLater.refl _ | with_reducible apply AnyLater.setCell | with_reducible apply AnyLater.later | with_reducible apply AnyLater.drewN | with_reducible apply AnyLater.drew | with_reducible apply AnyLater.alloc | ((try simp only [World.size_alloc, World.size_setCell, World.size_drew]); (try dsimp only); omega))
    · ((repeat (first | with_reducible assumption | ((with_reducible apply heap_new); (try simp only [World.size_alloc, World.size_setCell, World.size_drew, World.heap_drewN]); done) | ((with_reducible apply heap_new); (try simp only [World.size_alloc, World.size_setCell, World.size_drew, World.heap_drewN]); omega) | (with_reducible refine heap_old (by (try simp only [World.size_alloc, World.size_setCell, World.size_drew, World.heap_drewN]); omega) ?_) | (with_reducible refine heap_drew ?_) | (with_reducible refine heap_far (by omega) ?_) | (with_reducible apply heap_at))); all_goals rfl)
  rintro w1 ⟨b_w1, s0_w1⟩
  have a_w1 := b_w1
  have r0_w1 := own_row s0_w1
  have f0_w1 := own_free s0_w1
  have l0_w1 := own_lt s0_w1
  have z_w1 := b_w1.below.size
  have s1_w1 := any_own a_w1 HK.out.1
  have s2_w1 := any_own a_w1 HK.out.2
  have r1_w1 := own_row s1_w1
  go_quiet (fail)
  go_wp2_with fail
  refine (HNa.out _ (a_w1.drewN _)).mono ?_
  rintro e w2 ⟨rfl, c2⟩
  have b_w2 : AnyLater w1 w2 := ((AnyLater.refl w1).drewN _).trans c2
  have z_w2 := b_w2.below.size
  have a_w2 := a_w1.trans b_w2
  have s0_w2 := any_own b_w2 s0_w1
  have s1_w2 := any_own b_w2 s1_w1
  have s2_w2 := any_own b_w2 s2_w1
  have r0_w2 := own_row s0_w2
  have f0_w2 := own_free s0_w2
  have l0_w2 := own_lt s0_w2
  have r1_w2 := own_row s1_w2
  have f1_w2 := own_free s1_w2
  have l1_w2 := own_lt s1_w2
  have r2_w2 := own_row s2_w2
  have f2_w2 := own_free s2_w2
  have l2_w2 := own_lt s2_w2
  (try clear r0_w1); (try clear f0_w1)
  (try clear r1_w1); (try clear f1_w1)
  (try clear r2_w1); (try clear f2_w1)
  clear c2
  go_wp2_with fail
  refine (HNi.out _ a_w2).mono ?_
  rintro e w3 ⟨rfl, b_w3⟩
  have z_w3 := b_w3.below.size
  have a_w3 := a_w2.trans b_w3
  have s0_w3 := any_own b_w3 s0_w2
  have s1_w3 := any_own b_w3 s1_w2
  have s2_w3 := any_own b_w3 s2_w2
  have r0_w3 := own_row s0_w3
  have f0_w3 := own_free s0_w3
  have l0_w3 := own_lt s0_w3
  have r1_w3 := own_row s1_w3
  have f1_w3 := own_free s1_w3
  have l1_w3 := own_lt s1_w3
  have r2_w3 := own_row s2_w3
  have f2_w3 := own_free s2_w3
  have l2_w3 := own_lt s2_w3
  (try clear r0_w2); (try clear f0_w2)
  (try clear r1_w2); (try clear f1_w2)
  (try clear r2_w2); (try clear f2_w2)
  go_wp2_with fail
  apply Wild.wp_region_free (22) [⟨9, 43, undef, true, isT (.node a q b)⟩, ⟨20, 54, undef, true, isT (.node c p r)⟩, ⟨21, 55, undef, true, isT (.node (.node a q b) s (.node c p r))⟩] [⟨9, 43, isT (.node a q b)⟩, ⟨20, 54, isT (.node c p r)⟩, ⟨21, 55, isT (.node (.node a q b) s (.node c p r))⟩] rfl (by kernel_rfl) (by kernel_rfl) (by kernel_rfl) (by simp) (by kernel_rfl)
  case hstab =>
    intro c hc
    simp only [List.mem_cons, List.not_mem_nil, or_false] at hc
    rcases hc with rfl | rfl | rfl
    · intro v x y hxy hv; exact isT_stays hxy hv
    · intro v x y hxy hv; exact isT_stays hxy hv
    · intro v x y hxy hv; exact isT_stays hxy hv
  case hfix =>
    intro c hc
    simp only [List.mem_cons, List.not_mem_nil, or_false] at hc
    rcases hc with rfl | rfl | rfl
    · exact .inl rfl
    · exact .inl rfl
    · exact .inl rfl
  case hlex =>
    intro U hU
    have q0 := own_row (any_own hU s0_w3)
    have q1 := own_row (any_own hU s1_w3)
    have q2 := own_row (any_own hU s2_w3)
    simp only [List.map_cons, List.map_nil, CA.act, actFrom, actOp, List.lookup, Nat.reduceBEq, Nat.reduceLeDiff, Nat.reduceAdd, if_false, if_true]
    repeat (go_big_quiet_step (fail))
    exact wpQuiet_nil rfl
  case hstep =>
    intro j hj o ho
    have hj2 : j = 0 ∨ j = 1 ∨ j = 2 := by simp at hj; omega
    rcases hj2 with rfl | rfl | rfl
    · cases ho
      refine ⟨rfl, fun g x hx hp => ?_⟩
      clear hp
      simp only [fillAll, Act.put, List.setIfInBounds_toArray, List.set_cons_zero, List.set_cons_succ]
      refine chain_go ?_ (Wild.free_tells (HT1.out x (a_w3.trans hx)))
      first | (simp [go_sem, execOp]; done) | simp [go_sem, execOp, hcf]
    · cases ho
      refine ⟨rfl, fun g x hx hp => ?_⟩
      clear hp
      simp only [fillAll, Act.put, List.setIfInBounds_toArray, List.set_cons_zero, List.set_cons_succ]
      refine chain_go ?_ (Wild.free_tells (HT2.out x (a_w3.trans hx)))
      first | (simp [go_sem, execOp]; done) | simp [go_sem, execOp, hcf]
    · cases ho
      refine ⟨rfl, fun g x hx hp => ?_⟩
      have p43 : (isT (.node a q b)) (g 9) x := hp _ (List.mem_of_getElem? (i := 0) rfl) (List.contains_iff_mem.1 (by kernel_rfl))
      have p54 : (isT (.node c p r)) (g 20) x := hp _ (List.mem_of_getElem? (i := 1) rfl) (List.contains_iff_mem.1 (by kernel_rfl))
      clear hp
      simp only [fillAll, Act.put, List.setIfInBounds_toArray, List.set_cons_zero, List.set_cons_succ]
      refine chain_go ?_ (Wild.free_tells (HT3.out _ _ _ (a_w3.trans hx) p43 p54))
      first | (simp [go_sem, execOp]; done) | simp [go_sem, execOp, hcf]
  case htail =>
    intro g u hst hne
    have b_w4 : AnyLater w3 (later u) := ⟨u, rfl⟩
    generalize later u = w4 at *
    clear u hne
    obtain ⟨p43_w4, -⟩ := hst _ (List.mem_of_getElem? (i := 0) rfl)
    (try dsimp only at p43_w4)
    obtain ⟨p54_w4, -⟩ := hst _ (List.mem_of_getElem? (i := 1) rfl)
    (try dsimp only at p54_w4)
    obtain ⟨p55_w4, -⟩ := hst _ (List.mem_of_getElem? (i := 2) rfl)
    (try dsimp only at p55_w4)
    clear hst
    simp only [fillAll, Act.put, List.setIfInBounds_toArray, List.set_cons_zero, List.set_cons_succ, List.drop_succ_cons, List.drop_zero, List.drop_nil]
    generalize g 9 = v43 at *
    generalize g 20 = v54 at *
    generalize g 21 = v55 at *
    have z_w4 := b_w4.below.size
    have a_w4 := a_w3.trans b_w4
    have s0_w4 := any_own b_w4 s0_w3
    have s1_w4 := any_own b_w4 s1_w3
    have s2_w4 := any_own b_w4 s2_w3
    have r0_w4 := own_row s0_w4
    have f0_w4 := own_free s0_w4
    have l0_w4 := own_lt s0_w4
    have r1_w4 := own_row s1_w4
    have f1_w4 := own_free s1_w4
    have l1_w4 := own_lt s1_w4
    have r2_w4 := own_row s2_w4
    have f2_w4 := own_free s2_w4
    have l2_w4 := own_lt s2_w4
    (try clear r0_w3); (try clear f0_w3)
    (try clear r1_w3); (try clear f1_w3)
    (try clear r2_w3); (try clear f2_w3)
    go_wp2_with fail
    go_ret
    exact ⟨_, rfl, a_w4, p55_w4⟩
theorem turnRight_any (a i r : Tr) (q p : Pc) (v rv bv fv : Value) (w : World) (t : Tr) (ht : Tr.turnR (.node a q i) p r = t) (h : IsT w (.node a q i) v) (hr : IsT w r rv) (hp : RIsP w bv fv p) (hF : (Tr.node a q i).Fair) (fp : p.Fair) (fr : r.Fair) (hn : (Tr.node a q i).len + p.b.length + r.len ≤ 90000) :
    Calls Tryz.prog 247 #[v, pcV bv fv p, rv] w (Ans (isT t) w) := by
  subst ht
  cases i with
  | nil => exact turnRight_flat a .nil r q p v rv bv fv w h hr hp hF fp fr hn (Nat.zero_le _)
  | node b s c =>
    rw [Tr.turnR_node]
    split
    · rename_i hc
      exact turnRight_flat a _ r q p v rv bv fv w h hr hp hF fp fr hn hc
    · rename_i hc
      exact turnRight_steep a b c r q s p v rv bv fv w h hr hp hF fp fr hn hc
set_option maxRecDepth 100000 in
set_option maxHeartbeats 1600000 in
theorem turnLeft_flat (l i o : Tr) (q p : Pc) (v lv bv fv : Value) (w : World) (h : IsT w (.node i q o) v) (hl : IsT w l lv) (hp : RIsP w bv fv p) (hF : (Tr.node i q o).Fair) (fp : p.Fair) (fl : l.Fair) (hn : l.len + p.b.length + (Tr.node i q o).len ≤ 90000) (hlev : i.lev ≤ o.lev) :
    Calls Tryz.prog 248 #[lv, pcV bv fv p, v] w (Ans (isT (.node (.node l p i) q o)) w) := by
  obtain ⟨fi, fq, fo⟩ := hF
  have hn2 : l.len + p.b.length + (i.len + q.b.length + o.len) ≤ 90000 := hn
  obtain ⟨k, iv, ov, qv, gv, rfl, hk, hi, ho, hq⟩ := h
  have HNo := Lib.hid (fun (w' : World) (b : AnyLater w w') => noted_any o ov w' (ho.later b))
  have HNi := Lib.hid (fun (w' : World) (b : AnyLater w w') => noted_any i iv w' (hi.later b))
  have HT1 := Lib.hid (fun (w' : World) (b : AnyLater w w') => tie_any l i p lv iv bv fv w' (hl.later b) (hi.later b) (hp.later b) fl fi (by unfold Tr.len; omega))
  have HT2 := Lib.hid (fun (w' : World) (u : Value) (b : AnyLater w w') (hu : isT (.node l p i) u w') => tie_any (.node l p i) o q u ov qv gv w' hu (ho.later b) (hq.later b) ⟨fl, fp, fi⟩ fo (by simp only [Tr.len]; omega))
  have HK := Lib.hid hk
  obtain ⟨A, cap, rfl, -⟩ := hp.1.form
  obtain ⟨A2, cap2, rfl, -⟩ := hp.2.form
  obtain ⟨A3, cap3, rfl, -⟩ := hq.1.form
  obtain ⟨A4, cap4, rfl, -⟩ := hq.2.form
  unfold nodeC at HK
  unfold sumV at HNo HNi
  unfold pcV at HT1 HT2 ⊢
  have d1 : ((i.lev : Nat) : Int) ≤ (o.lev : Int) := by omega
  have f3 := fld3
  clear hl hi hq ho hp hk hn hn2 hlev
  generalize o.lev = x1 at *
  generalize i.lev = x2 at *
  generalize p.b.length = n at *
  generalize p.fs.length = m at *
  generalize p.base = b0 at *
  generalize q.b.length = n2 at *
  generalize q.fs.length = m2 at *
  generalize q.base = b1 at *
  go_enter Tryz.func248, Tryz.ntmps248
  go_wp2_with fail
  first | refine settle_wp (fun wS => AnyLater w wS ∧ wS.heap[w.heap.size]? = some (.cells #[.slice A n cap, .slice A2 m cap2, .int .i64 b0] 191)) ?_ ?_ | refine settle_calls (fun wS => AnyLater w wS ∧ wS.heap[w.heap.size]? = some (.cells #[.slice A n cap, .slice A2 m cap2, .int .i64 b0] 191)) ?_ ?_
  · refine ⟨?_, ?_⟩
    · repeat' (first | with_reducible assumption | with_reducible exact AnyLater.refl _ | with_reducible apply AnyLater.setCell | with_reducible apply AnyLater.later | with_reducible apply AnyLater.drewN | with_reducible apply AnyLater.drew | with_reducible apply AnyLater.alloc | ((try simp only [World.size_alloc, World.size_setCell, World.size_drew]); (try dsimp only); omega))
    · ((repeat (first | with_reducible assumption | ((with_reducible apply heap_new); (try simp only [World.size_alloc, World.size_setCell, World.size_drew, World.heap_drewN]); done) | ((with_reducible apply heap_new); (try simp only [World.size_alloc, World.size_setCell, World.size_drew, World.heap_drewN]); omega) | (with_reducible refine heap_old (by (try simp only [World.size_alloc, World.size_setCell, World.size_drew, World.heap_drewN]); omega) ?_) | (with_reducible refine heap_drew ?_) | (with_reducible refine heap_far (by omega) ?_) | (with_reducible apply heap_at))); all_goals rfl)
  rintro w1 ⟨b_w1, s0_w1⟩
  have a_w1 := b_w1
  have r0_w1 := own_row s0_w1
  have f0_w1 := own_free s0_w1
  have l0_w1 := own_lt s0_w1
  have z_w1 := b_w1.below.size
  have s1_w1 := any_own a_w1 HK.out
  have r1_w1 := own_row s1_w1
  go_quiet (fail)
  go_wp2_with fail
  refine (HNo.out _ (a_w1.drewN _)).mono ?_
  rintro e w2 ⟨rfl, c2⟩
  have b_w2 : AnyLater w1 w2 := ((AnyLater.refl w1).drewN _).trans c2
  have z_w2 := b_w2.below.size
  have a_w2 := a_w1.trans b_w2
  have s0_w2 := any_own b_w2 s0_w1
  have s1_w2 := any_own b_w2 s1_w1
  have r0_w2 := own_row s0_w2
  have f0_w2 := own_free s0_w2
  have l0_w2 := own_lt s0_w2
  have r1_w2 := own_row s1_w2
  have f1_w2 := own_free s1_w2
  have l1_w2 := own_lt s1_w2
  (try clear r0_w1); (try clear f0_w1)
  (try clear r1_w1); (try clear f1_w1)
  clear c2
  go_wp2_with fail
  refine (HNi.out _ a_w2).mono ?_
  rintro e w3 ⟨rfl, b_w3⟩
  have z_w3 := b_w3.below.size
  have a_w3 := a_w2.trans b_w3
  have s0_w3 := any_own b_w3 s0_w2
  have s1_w3 := any_own b_w3 s1_w2
  have r0_w3 := own_row s0_w3
  have f0_w3 := own_free s0_w3
  have l0_w3 := own_lt s0_w3
  have r1_w3 := own_row s1_w3
  have f1_w3 := own_free s1_w3
  have l1_w3 := own_lt s1_w3
  (try clear r0_w2); (try clear f0_w2)
  (try clear r1_w2); (try clear f1_w2)
  go_wp2_with fail
  apply Wild.wp_region_free (10) [⟨3, 27, undef, true, isT (.node l p i)⟩, ⟨9, 33, undef, true, isT (.node (.node l p i) q o)⟩] [⟨3, 27, isT (.node l p i)⟩, ⟨9, 33, isT (.node (.node l p i) q o)⟩] rfl (by kernel_rfl) (by kernel_rfl) (by kernel_rfl) (by simp) (by kernel_rfl)
  case hstab =>
    intro c hc
    simp only [List.mem_cons, List.not_mem_nil, or_false] at hc
    rcases hc with rfl | rfl
    · intro v x y hxy hv; exact isT_stays hxy hv
    · intro v x y hxy hv; exact isT_stays hxy hv
  case hfix =>
    intro c hc
    simp only [List.mem_cons, List.not_mem_nil, or_false] at hc
    rcases hc with rfl | rfl
    · exact .inl rfl
    · exact .inl rfl
  case hlex =>
    intro U hU
    have q0 := own_row (any_own hU s0_w3)
    have q1 := own_row (any_own hU s1_w3)
    simp only [List.map_cons, List.map_nil, CA.act, actFrom, actOp, List.lookup, Nat.reduceBEq, Nat.reduceLeDiff, Nat.reduceAdd, if_false, if_true]
    repeat (go_big_quiet_step (fail))
    exact wpQuiet_nil rfl
  case hstep =>
    intro j hj o ho
    have hj2 : j = 0 ∨ j = 1 := by simp at hj; omega
    rcases hj2 with rfl | rfl
    · cases ho
      refine ⟨rfl, fun g x hx hp => ?_⟩
      clear hp
      simp only [fillAll, Act.put, List.setIfInBounds_toArray, List.set_cons_zero, List.set_cons_succ]
      refine chain_go ?_ (Wild.free_tells (HT1.out x (a_w3.trans hx)))
      first | (simp [go_sem, execOp]; done) | simp [go_sem, execOp, hcf]
    · cases ho
      refine ⟨rfl, fun g x hx hp => ?_⟩
      have p27 : (isT (.node l p i)) (g 3) x := hp _ (List.mem_of_getElem? (i := 0) rfl) (List.contains_iff_mem.1 (by kernel_rfl))
      clear hp
      simp only [fillAll, Act.put, List.setIfInBounds_toArray, List.set_cons_zero, List.set_cons_succ]
      refine chain_go ?_ (Wild.free_tells (HT2.out _ _ (a_w3.trans hx) p27))
      first | (simp [go_sem, execOp]; done) | simp [go_sem, execOp, hcf]
  case htail =>
    intro g u hst hne
    have b_w4 : AnyLater w3 (later u) := ⟨u, rfl⟩
    generalize later u = w4 at *
    clear u hne
    obtain ⟨p27_w4, -⟩ := hst _ (List.mem_of_getElem? (i := 0) rfl)
    (try dsimp only at p27_w4)
    obtain ⟨p33_w4, -⟩ := hst _ (List.mem_of_getElem? (i := 1) rfl)
    (try dsimp only at p33_w4)
    clear hst
    simp only [fillAll, Act.put, List.setIfInBounds_toArray, List.set_cons_zero, List.set_cons_succ, List.drop_succ_cons, List.drop_zero, List.drop_nil]
    generalize g 3 = v27 at *
    generalize g 9 = v33 at *
    have z_w4 := b_w4.below.size
    have a_w4 := a_w3.trans b_w4
    have s0_w4 := any_own b_w4 s0_w3
    have s1_w4 := any_own b_w4 s1_w3
    have r0_w4 := own_row s0_w4
    have f0_w4 := own_free s0_w4
    have l0_w4 := own_lt s0_w4
    have r1_w4 := own_row s1_w4
    have f1_w4 := own_free s1_w4
    have l1_w4 := own_lt s1_w4
    (try clear r0_w3); (try clear f0_w3)
    (try clear r1_w3); (try clear f1_w3)
    go_wp2_with fail
    go_ret
    exact ⟨_, rfl, a_w4, p33_w4⟩
set_option maxRecDepth 100000 in
set_option maxHeartbeats 1600000 in
theorem turnLeft_steep (l b c o : Tr) (q s p : Pc) (v lv bv fv : Value) (w : World) (h : IsT w (.node (.node b s c) q o) v) (hl : IsT w l lv) (hp : RIsP w bv fv p) (hF : (Tr.node (.node b s c) q o).Fair) (fp : p.Fair) (fl : l.Fair) (hn : l.len + p.b.length + (Tr.node (.node b s c) q o).len ≤ 90000) (hlev : ¬ (Tr.node b s c).lev ≤ o.lev) :
    Calls Tryz.prog 248 #[lv, pcV bv fv p, v] w (Ans (isT (.node (.node l p b) s (.node c q o))) w) := by
  obtain ⟨⟨fb, fs, fc⟩, fq, fo⟩ := hF
  have hn2 : l.len + p.b.length + ((b.len + s.b.length + c.len) + q.b.length + o.len) ≤ 90000 := hn
  obtain ⟨k, iv, ov, qv, gv, rfl, hk, hi, ho, hq⟩ := h
  have HNo := Lib.hid (fun (w' : World) (b : AnyLater w w') => noted_any o ov w' (ho.later b))
  have HNi := Lib.hid (fun (w' : World) (e : AnyLater w w') => noted_any (.node b s c) iv w' (hi.later e))
  obtain ⟨k2, xv, yv, sv, tv, rfl, hk2, hb, hc, hs⟩ := hi
  have HT1 := Lib.hid (fun (w' : World) (e : AnyLater w w') => tie_any l b p lv xv bv fv w' (hl.later e) (hb.later e) (hp.later e) fl fb (by simp only [Tr.len]; omega))
  have HT2 := Lib.hid (fun (w' : World) (e : AnyLater w w') => tie_any c o q yv ov qv gv w' (hc.later e) (ho.later e) (hq.later e) fc fo (by simp only [Tr.len]; omega))
  have HT3 := Lib.hid (fun (w' : World) (u u2 : Value) (e : AnyLater w w') (hu : isT (.node l p b) u w') (hu2 : isT (.node c q o) u2 w') => tie_any (.node l p b) (.node c q o) s u u2 sv tv w' hu hu2 (hs.later e) ⟨fl, fp, fb⟩ ⟨fc, fq, fo⟩ (by simp only [Tr.len]; omega))
  have HK := Lib.hid (And.intro hk hk2)
  obtain ⟨A, cap, rfl, -⟩ := hp.1.form
  obtain ⟨A2, cap2, rfl, -⟩ := hp.2.form
  obtain ⟨A3, cap3, rfl, -⟩ := hq.1.form
  obtain ⟨A4, cap4, rfl, -⟩ := hq.2.form
  obtain ⟨A5, cap5, rfl, -⟩ := hs.1.form
  obtain ⟨A6, cap6, rfl, -⟩ := hs.2.form
  unfold nodeC at HK
  unfold sumV at HNo HNi
  unfold pcV at HT1 HT2 HT3 ⊢
  have d1 : decide ((Tr.node b s c).lev ≤ o.lev) = false := decide_eq_false (by omega)
  have f3 := fld3
  clear hl hq ho hp hk hn hn2 hlev hb hc hs hk2
  generalize o.lev = x1 at *
  generalize (Tr.node b s c).lev = x2 at *
  generalize p.b.length = n at *
  generalize p.fs.length = m at *
  generalize p.base = b0 at *
  generalize q.b.length = n2 at *
  generalize q.fs.length = m2 at *
  generalize q.base = b1 at *
  generalize s.b.length = n3 at *
  generalize s.fs.length = m3 at *
  generalize s.base = b3 at *
  go_enter Tryz.func248, Tryz.ntmps248
  go_wp2_with fail
  first | refine settle_wp (fun wS => AnyLater w wS ∧ wS.heap[w.heap.size]? = some (.cells #[.slice A n cap, .slice A2 m cap2, .int .i64 b0] 191)) ?_ ?_ | refine settle_calls (fun wS => AnyLater w wS ∧ wS.heap[w.heap.size]? = some (.cells #[.slice A n cap, .slice A2 m cap2, .int .i64 b0] 191)) ?_ ?_
  · refine ⟨?_, ?_⟩
    · repeat' (first | with_reducible assumption | with_reducible exact AnyLater.refl _ | with_reducible apply AnyLater.setCell | with_reducible apply AnyLater.later | with_reducible apply AnyLater.drewN | with_reducible apply AnyLater.drew | with_reducible apply AnyLater.alloc | ((try simp only [World.size_alloc, World.size_setCell, World.size_drew]); (try dsimp only); omega))
    · ((repeat (first | with_reducible assumption | ((with_reducible apply heap_new); (try simp only [World.size_alloc, World.size_setCell, World.size_drew, World.heap_drewN]); done) | ((with_reducible apply heap_new); (try simp only [World.size_alloc, World.size_setCell, World.size_drew, World.heap_drewN]); omega) | (with_reducible refine heap_old (by (try simp only [World.size_alloc, World.size_setCell, World.size_drew, World.heap_drewN]); omega) ?_) | (with_reducible refine heap_drew ?_) | (with_reducible refine heap_far (by omega) ?_) | (with_reducible apply heap_at))); all_goals rfl)
  rintro w1 ⟨b_w1, s0_w1⟩
  have a_w1 := b_w1
  have r0_w1 := own_row s0_w1
  have f0_w1 := own_free s0_w1
  have l0_w1 := own_lt s0_w1
  have z_w1 := b_w1.below.size
  have s1_w1 := any_own a_w1 HK.out.1
  have s2_w1 := any_own a_w1 HK.out.2
  have r1_w1 := own_row s1_w1
  go_quiet (fail)
  go_wp2_with fail
  refine (HNo.out _ (a_w1.drewN _)).mono ?_
  rintro e w2 ⟨rfl, c2⟩
  have b_w2 : AnyLater w1 w2 := ((AnyLater.refl w1).drewN _).trans c2
  have z_w2 := b_w2.below.size
  have a_w2 := a_w1.trans b_w2
  have s0_w2 := any_own b_w2 s0_w1
  have s1_w2 := any_own b_w2 s1_w1
  have s2_w2 := any_own b_w2 s2_w1
  have r0_w2 := own_row s0_w2
  have f0_w2 := own_free s0_w2
  have l0_w2 := own_lt s0_w2
  have r1_w2 := own_row s1_w2
  have f1_w2 := own_free s1_w2
  have l1_w2 := own_lt s1_w2
  have r2_w2 := own_row s2_w2
  have f2_w2 := own_free s2_w2
  have l2_w2 := own_lt s2_w2
  (try clear r0_w1); (try clear f0_w1)
  (try clear r1_w1); (try clear f1_w1)
  (try clear r2_w1); (try clear f2_w1)
  clear c2
  go_wp2_with fail
  refine (HNi.out _ a_w2).mono ?_
  rintro e w3 ⟨rfl, b_w3⟩
  have z_w3 := b_w3.below.size
  have a_w3 := a_w2.trans b_w3
  have s0_w3 := any_own b_w3 s0_w2
  have s1_w3 := any_own b_w3 s1_w2
  have s2_w3 := any_own b_w3 s2_w2
  have r0_w3 := own_row s0_w3
  have f0_w3 := own_free s0_w3
  have l0_w3 := own_lt s0_w3
  have r1_w3 := own_row s1_w3
  have f1_w3 := own_free s1_w3
  have l1_w3 := own_lt s1_w3
  have r2_w3 := own_row s2_w3
  have f2_w3 := own_free s2_w3
  have l2_w3 := own_lt s2_w3
  (try clear r0_w2); (try clear f0_w2)
  (try clear r1_w2); (try clear f1_w2)
  (try clear r2_w2); (try clear f2_w2)
  go_wp2_with fail
  apply Wild.wp_region_free (22) [⟨6, 40, undef, true, isT (.node l p b)⟩, ⟨20, 54, undef, true, isT (.node c q o)⟩, ⟨21, 55, undef, true, isT (.node (.node l p b) s (.node c q o))⟩] [⟨6, 40, isT (.node l p b)⟩, ⟨20, 54, isT (.node c q o)⟩, ⟨21, 55, isT (.node (.node l p b) s (.node c q o))⟩] rfl (by kernel_rfl) (by kernel_rfl) (by kernel_rfl) (by simp) (by kernel_rfl)
  case hstab =>
    intro c hc
    simp only [List.mem_cons, List.not_mem_nil, or_false] at hc
    rcases hc with rfl | rfl | rfl
    · intro v x y hxy hv; exact isT_stays hxy hv
    · intro v x y hxy hv; exact isT_stays hxy hv
    · intro v x y hxy hv; exact isT_stays hxy hv
  case hfix =>
    intro c hc
    simp only [List.mem_cons, List.not_mem_nil, or_false] at hc
    rcases hc with rfl | rfl | rfl
    · exact .inl rfl
    · exact .inl rfl
    · exact .inl rfl
  case hlex =>
    intro U hU
    have q0 := own_row (any_own hU s0_w3)
    have q1 := own_row (any_own hU s1_w3)
    have q2 := own_row (any_own hU s2_w3)
    simp only [List.map_cons, List.map_nil, CA.act, actFrom, actOp, List.lookup, Nat.reduceBEq, Nat.reduceLeDiff, Nat.reduceAdd, if_false, if_true]
    repeat (go_big_quiet_step (fail))
    exact wpQuiet_nil rfl
  case hstep =>
    intro j hj o ho
    have hj2 : j = 0 ∨ j = 1 ∨ j = 2 := by simp at hj; omega
    rcases hj2 with rfl | rfl | rfl
    · cases ho
      refine ⟨rfl, fun g x hx hp => ?_⟩
      clear hp
      simp only [fillAll, Act.put, List.setIfInBounds_toArray, List.set_cons_zero, List.set_cons_succ]
      refine chain_go ?_ (Wild.free_tells (HT1.out x (a_w3.trans hx)))
      first | (simp [go_sem, execOp]; done) | simp [go_sem, execOp, hcf]
    · cases ho
      refine ⟨rfl, fun g x hx hp => ?_⟩
      clear hp
      simp only [fillAll, Act.put, List.setIfInBounds_toArray, List.set_cons_zero, List.set_cons_succ]
      refine chain_go ?_ (Wild.free_tells (HT2.out x (a_w3.trans hx)))
      first | (simp [go_sem, execOp]; done) | simp [go_sem, execOp, hcf]
    · cases ho
      refine ⟨rfl, fun g x hx hp => ?_⟩
      have p40 : (isT (.node l p b)) (g 6) x := hp _ (List.mem_of_getElem? (i := 0) rfl) (List.contains_iff_mem.1 (by kernel_rfl))
      have p54 : (isT (.node c q o)) (g 20) x := hp _ (List.mem_of_getElem? (i := 1) rfl) (List.contains_iff_mem.1 (by kernel_rfl))
      clear hp
      simp only [fillAll, Act.put, List.setIfInBounds_toArray, List.set_cons_zero, List.set_cons_succ]
      refine chain_go ?_ (Wild.free_tells (HT3.out _ _ _ (a_w3.trans hx) p40 p54))
      first | (simp [go_sem, execOp]; done) | simp [go_sem, execOp, hcf]
  case htail =>
    intro g u hst hne
    have b_w4 : AnyLater w3 (later u) := ⟨u, rfl⟩
    generalize later u = w4 at *
    clear u hne
    obtain ⟨p40_w4, -⟩ := hst _ (List.mem_of_getElem? (i := 0) rfl)
    (try dsimp only at p40_w4)
    obtain ⟨p54_w4, -⟩ := hst _ (List.mem_of_getElem? (i := 1) rfl)
    (try dsimp only at p54_w4)
    obtain ⟨p55_w4, -⟩ := hst _ (List.mem_of_getElem? (i := 2) rfl)
    (try dsimp only at p55_w4)
    clear hst
    simp only [fillAll, Act.put, List.setIfInBounds_toArray, List.set_cons_zero, List.set_cons_succ, List.drop_succ_cons, List.drop_zero, List.drop_nil]
    generalize g 6 = v40 at *
    generalize g 20 = v54 at *
    generalize g 21 = v55 at *
    have z_w4 := b_w4.below.size
    have a_w4 := a_w3.trans b_w4
    have s0_w4 := any_own b_w4 s0_w3
    have s1_w4 := any_own b_w4 s1_w3
    have s2_w4 := any_own b_w4 s2_w3
    have r0_w4 := own_row s0_w4
    have f0_w4 := own_free s0_w4
    have l0_w4 := own_lt s0_w4
    have r1_w4 := own_row s1_w4
    have f1_w4 := own_free s1_w4
    have l1_w4 := own_lt s1_w4
    have r2_w4 := own_row s2_w4
    have f2_w4 := own_free s2_w4
    have l2_w4 := own_lt s2_w4
    (try clear r0_w3); (try clear f0_w3)
    (try clear r1_w3); (try clear f1_w3)
    (try clear r2_w3); (try clear f2_w3)
    go_wp2_with fail
    go_ret
    exact ⟨_, rfl, a_w4, p55_w4⟩
theorem turnLeft_any (l i o : Tr) (q p : Pc) (v lv bv fv : Value) (w : World) (t : Tr) (ht : Tr.turnL l p (.node i q o) = t) (h : IsT w (.node i q o) v) (hl : IsT w l lv) (hp : RIsP w bv fv p) (hF : (Tr.node i q o).Fair) (fp : p.Fair) (fl : l.Fair) (hn : l.len + p.b.length + (Tr.node i q o).len ≤ 90000) :
    Calls Tryz.prog 248 #[lv, pcV bv fv p, v] w (Ans (isT t) w) := by
  subst ht
  cases i with
  | nil => exact turnLeft_flat l .nil o q p v lv bv fv w h hl hp hF fp fl hn (Nat.zero_le _)
  | node b s c =>
    rw [Tr.turnL_node]
    split
    · rename_i hc
      exact turnLeft_flat l _ o q p v lv bv fv w h hl hp hF fp fl hn hc
    · rename_i hc
      exact turnLeft_steep l b c o q s p v lv bv fv w h hl hp hF fp fl hn hc
end Go.Proofs.YtamhnffokoejjaaGreatDoor
