/- rope: what is to be noted of a piece between two parts; tied; told to be deeper; where a piece begins and ends: by contract. Texts of up to 90000 bytes. -/
import Derived.Test.YtiicaldnegcdiaaGreatRopB
namespace Go.Proofs.YtiicaldnegcdiaaGreat
set_option linter.unusedSimpArgs false
set_option linter.unusedVariables false
set_option linter.unusedSectionVars false
open Go.RowKit

/-- a call whose answer is of this kind, which changes nothing that was -/
def Ans (is : Value → World → Prop) (w : World) (e : Ending) (w' : World) : Prop := ∃ u, e = .returned u ∧ AnyLater w w' ∧ is u w'
def isT (t : Tr) (v : Value) (w : World) : Prop := IsT w t v
theorem isT_stays {t : Tr} {v : Value} {w w' : World} (h : AnyLater w w') (s : isT t v w) : isT t v w' := IsT.later h s

set_option maxRecDepth 100000 in
theorem sumsOf_any (l r : Tr) (p : Pc) (lv rv bv fv : Value) (w : World) (hl : IsT w l lv) (hr : IsT w r rv) (hp : RIsP w bv fv p) (fl : l.Fair) (fr : r.Fair) (hn : (Tr.node l p r).len ≤ 90000) :
    Calls Tryz.prog 82 #[lv, pcV bv fv p, rv] w fun e w' => e = .returned (sumV (.node l p r)) ∧ AnyLater w w' := by
  have HL := Lib.hid (fun (w' : World) (a : AnyLater w w') => noted_any l lv w' (hl.later a))
  have HR := Lib.hid (fun (w' : World) (a : AnyLater w w') => noted_any r rv w' (hr.later a))
  obtain ⟨A, cap, rfl, hA⟩ := hp.1.form
  obtain ⟨A2, cap2, rfl, hA2⟩ := hp.2.form
  have b1 := l.np_le fl
  have b2 := r.np_le fr
  have b3 := l.lev_le
  have b4 := r.lev_le
  have b5 := l.nf_le
  have b6 := r.nf_le
  have b7 := feN_le p.b p.base
  have b8 : p.fs.length ≤ p.b.length := b7
  simp only [Tr.len] at hn
  unfold sumV at HL HR ⊢
  simp only [Tr.len, Tr.nf, Tr.np, Tr.lev]
  unfold pcV
  clear hl hr hp fl fr b7 hA hA2
  generalize l.len = a1 at *
  generalize l.nf = a2 at *
  generalize l.np = a3 at *
  generalize l.lev = a4 at *
  generalize r.len = c1 at *
  generalize r.nf = c2 at *
  generalize r.np = c3 at *
  generalize r.lev = c4 at *
  generalize p.b.length = n at *
  generalize p.fs.length = m at *
  obtain ⟨M, hM⟩ : ∃ M, max a4 c4 = M := ⟨_, rfl⟩
  have hM2 : M ≤ 90000 := by omega
  have HMx : ∀ (w : World) ts t, (Builtin.max_ ts t #[.int .i64 (a4 : Int), .int .i64 (c4 : Int)]).run Tryz.prog w = .ok (.int .i64 (M : Int)) w := fun w ts t => by rw [run_maxN, hM]
  rw [hM]
  clear hM b3 b4
  go_enter Tryz.func82, Tryz.ntmps82
  go_wp2_with fail
  first | refine settle_wp (fun wS => AnyLater w wS ∧ wS.heap[w.heap.size]? = some (.cells #[.slice A n cap, .slice A2 m cap2, .int .i64 p.base] 94) ∧ wS.heap[w.heap.size + 1]? = some (.cells #[.int .i64 0, .int .i64 0, .int .i64 0, .int .i64 0] 100)) ?_ ?_ | refine settle_calls (fun wS => AnyLater w wS ∧ wS.heap[w.heap.size]? = some (.cells #[.slice A n cap, .slice A2 m cap2, .int .i64 p.base] 94) ∧ wS.heap[w.heap.size + 1]? = some (.cells #[.int .i64 0, .int .i64 0, .int .i64 0, .int .i64 0] 100)) ?_ ?_
  · refine ⟨?_, ?_, ?_⟩
    · repeat' (first | with_reducible assumption | with_reducible exact AnyLater.refl _ | with_reducible apply AnyLater.setCell | with_reducible apply AnyLater.later | with_reducible apply AnyLater.drewN | with_reducible apply AnyLater.drew | with_reducible apply AnyLater.alloc | ((try simp only [World.size_alloc, World.size_setCell, World.size_drew]); (try dsimp only); omega))
    · ((repeat (first | with_reducible assumption | ((with_reducible apply heap_new); (try simp only [World.size_alloc, World.size_setCell, World.size_drew, World.heap_drewN]); done) | ((with_reducible apply heap_new); (try simp only [World.size_alloc, World.size_setCell, World.size_drew, World.heap_drewN]); omega) | (with_reducible refine heap_old (by (try simp only [World.size_alloc, World.size_setCell, World.size_drew, World.heap_drewN]); omega) ?_) | (with_reducible refine heap_drew ?_) | (with_reducible refine heap_far (by omega) ?_) | (with_reducible apply heap_at))); all_goals rfl)
    · ((repeat (first | with_reducible assumption | ((with_reducible apply heap_new); (try simp only [World.size_alloc, World.size_setCell, World.size_drew, World.heap_drewN]); done) | ((with_reducible apply heap_new); (try simp only [World.size_alloc, World.size_setCell, World.size_drew, World.heap_drewN]); omega) | (with_reducible refine heap_old (by (try simp only [World.size_alloc, World.size_setCell, World.size_drew, World.heap_drewN]); omega) ?_) | (with_reducible refine heap_drew ?_) | (with_reducible refine heap_far (by omega) ?_) | (with_reducible apply heap_at))); all_goals rfl)
  rintro w1 ⟨b_w1, s0_w1, s1_w1⟩
  have a_w1 := b_w1
  have r0_w1 := own_row s0_w1
  have f0_w1 := own_free s0_w1
  have l0_w1 := own_lt s0_w1
  have r1_w1 := own_row s1_w1
  have f1_w1 := own_free s1_w1
  have l1_w1 := own_lt s1_w1
  have z_w1 := b_w1.below.size
  refine (HL.out _ (by assumption)).mono ?_
  rintro e w2 ⟨rfl, b_w2⟩
  have z_w2 := b_w2.below.size
  have a_w2 := a_w1.trans b_w2
  have s0_w2 := any_own b_w2 s0_w1
  have s1_w2 := any_own b_w2 s1_w1
  have r0_w2 := own_row s0_w2
  have f0_w2 := own_free s0_w2
  have l0_w2 := own_lt s0_w2
  have r1_w2 := own_row s1_w2
  have f1_w2 := own_free s1_w2
  have l1_w2 := own_lt s1_w2
  (try clear r0_w1); (try clear f0_w1)
  (try clear r1_w1); (try clear f1_w1)
  go_wp2_with fail
  refine (HR.out _ (by assumption)).mono ?_
  rintro e w3 ⟨rfl, b_w3⟩
  have z_w3 := b_w3.below.size
  have a_w3 := a_w2.trans b_w3
  have s0_w3 := any_own b_w3 s0_w2
  have s1_w3 := any_own b_w3 s1_w2
  have r0_w3 := own_row s0_w3
  have f0_w3 := own_free s0_w3
  have l0_w3 := own_lt s0_w3
  have r1_w3 := own_row s1_w3
  have f1_w3 := own_free s1_w3
  have l1_w3 := own_lt s1_w3
  (try clear r0_w2); (try clear f0_w2)
  (try clear r1_w2); (try clear f1_w2)
  go_wp2_with fail
  refine bodyPost_ret (v := .agg #[.int .i64 ((a1 + n + c1 : Nat) : Int), .int .i64 ((a2 + m + c2 : Nat) : Int), .int .i64 ((a3 + 1 + c3 : Nat) : Int), .int .i64 ((1 + M : Nat) : Int)]) (by simp [results, Tryz.results82, go_sem, *]) rfl ⟨rfl, ?_⟩
  repeat' (first | with_reducible assumption | with_reducible exact AnyLater.refl _ | with_reducible apply AnyLater.setCell | with_reducible apply AnyLater.later | with_reducible apply AnyLater.drewN | with_reducible apply AnyLater.drew | with_reducible apply AnyLater.alloc | ((try simp only [World.size_alloc, World.size_setCell, World.size_drew]); (try dsimp only); omega))
theorem fld0 (a b c d : Int) (w : World) : (Instr.field 100 (.agg #[.int .i64 a, .int .i64 b, .int .i64 c, .int .i64 d]) 0).run Tryz.prog w = .ok (.int .i64 a) w := by kernel_rfl
theorem fld1 (a b c d : Int) (w : World) : (Instr.field 100 (.agg #[.int .i64 a, .int .i64 b, .int .i64 c, .int .i64 d]) 1).run Tryz.prog w = .ok (.int .i64 b) w := by kernel_rfl
theorem fld2 (a b c d : Int) (w : World) : (Instr.field 100 (.agg #[.int .i64 a, .int .i64 b, .int .i64 c, .int .i64 d]) 2).run Tryz.prog w = .ok (.int .i64 c) w := by kernel_rfl
theorem fld3 (a b c d : Int) (w : World) : (Instr.field 100 (.agg #[.int .i64 a, .int .i64 b, .int .i64 c, .int .i64 d]) 3).run Tryz.prog w = .ok (.int .i64 d) w := by kernel_rfl
set_option maxRecDepth 100000 in
theorem deeper_any (l r : Tr) (lv rv : Value) (w : World) (c : Bool) (hc : decide (r.lev + 2 < l.lev) = c) (hl : IsT w l lv) (hr : IsT w r rv) (h1 : l.lev ≤ 90000) (h2 : r.lev ≤ 90000) :
    Calls Tryz.prog 71 #[lv, rv] w fun e w' => e = .returned (.bool c) ∧ AnyLater w w' := by
  have HL := Lib.hid (fun (w' : World) (a : AnyLater w w') => noted_any l lv w' (hl.later a))
  have HR := Lib.hid (fun (w' : World) (a : AnyLater w w') => noted_any r rv w' (hr.later a))
  have HC : Hid (decide ((r.lev : Int) + 2 < (l.lev : Int)) = c) := Lib.hid (by rw [← hc]; simp only [decide_eq_decide]; omega)
  unfold sumV at HL HR
  clear hl hr hc
  generalize l.lev = a4 at *
  generalize r.lev = c4 at *
  have a0 := AnyLater.refl w
  have f3 := fld3
  go_enter Tryz.func71, Tryz.ntmps71
  go_wp2_with fail
  refine (HL.out _ a0).mono ?_
  rintro e w2 ⟨rfl, b2⟩
  go_wp2_with fail
  refine (HR.out _ b2).mono ?_
  rintro e w3 ⟨rfl, b3⟩
  go_wp2_with fail
  go_ret
  exact ⟨ret_bool HC.out, b2.trans b3⟩
set_option maxRecDepth 100000 in
theorem tie_any (l r : Tr) (p : Pc) (lv rv bv fv : Value) (w : World) (hl : IsT w l lv) (hr : IsT w r rv) (hp : RIsP w bv fv p) (fl : l.Fair) (fr : r.Fair) (hn : (Tr.node l p r).len ≤ 90000) :
    Calls Tryz.prog 73 #[lv, pcV bv fv p, rv] w (Ans (isT (.node l p r)) w) := by
  have HS := Lib.hid (fun (w' : World) (a : AnyLater w w') => sumsOf_any l r p lv rv bv fv w' (hl.later a) (hr.later a) (hp.later a) fl fr hn)
  have HT : Hid (∀ (w' : World) (k : Nat), AnyLater w w' → w'.heap[k]? = some (.cells (nodeC lv rv bv fv p (.node l p r)) 105) → isT (.node l p r) (.pointer (some ⟨k, 0, none⟩)) w') := Lib.hid (fun w' k a hk => ⟨k, lv, rv, bv, fv, rfl, hk, hl.later a, hr.later a, hp.later a⟩)
  obtain ⟨q1, rfl⟩ := hl.ptr
  obtain ⟨q2, rfl⟩ := hr.ptr
  obtain ⟨A, cap, rfl, hA⟩ := hp.1.form
  obtain ⟨A2, cap2, rfl, hA2⟩ := hp.2.form
  unfold nodeC at HT
  unfold sumV at HS
  unfold pcV at HS ⊢
  clear hl hr hp fl fr hn
  generalize (Tr.node l p r).len = a1 at *
  generalize (Tr.node l p r).nf = a2 at *
  generalize (Tr.node l p r).np = a3 at *
  generalize (Tr.node l p r).lev = a4 at *
  generalize p.b.length = n at *
  generalize p.fs.length = m at *
  generalize p.base = b0 at *
  go_enter Tryz.func73, Tryz.ntmps73
  go_wp2_with fail
  first | refine settle_wp (fun wS => AnyLater w wS ∧ wS.heap[w.heap.size]? = some (.cells #[.slice A n cap, .slice A2 m cap2, .int .i64 b0] 94)) ?_ ?_ | refine settle_calls (fun wS => AnyLater w wS ∧ wS.heap[w.heap.size]? = some (.cells #[.slice A n cap, .slice A2 m cap2, .int .i64 b0] 94)) ?_ ?_
  · refine ⟨?_, ?_⟩
    · repeat' (first | with_reducible assumption | with_reducible exact AnyLater.refl _ | with_reducible apply AnyLater.setCell | with_reducible apply AnyLater.later | with_reducible apply AnyLater.drewN | with_reducible apply AnyLater.drew | with_reducible apply AnyLater.alloc | ((try simp only [World.size_alloc, World.size_setCell, World.size_drew]); (try dsimp only); omega))
    · ((repeat (first | with_reducible assumption | ((with_reducible apply heap_new); (try simp only [World.size_alloc, World.size_setCell, World.size_drew, World.heap_drewN]); done) | ((with_reducible apply heap_new); (try simp only [World.size_alloc, World.size_setCell, World.size_drew, World.heap_drewN]); omega) | (with_reducible refine heap_old (by (try simp only [World.size_alloc, World.size_setCell, World.size_drew, World.heap_drewN]); omega) ?_) | (with_reducible refine heap_drew ?_) | (with_reducible refine heap_far (by omega) ?_) | (with_reducible apply heap_at))); all_goals rfl)
  rintro w1 ⟨b_w1, s0_w1⟩
  have a_w1 := b_w1
  have r0_w1 := own_row s0_w1
  have f0_w1 := own_free s0_w1
  have l0_w1 := own_lt s0_w1
  have z_w1 := b_w1.below.size
  apply wp_region_mem (8) [] (by kernel_rfl) (by kernel_rfl) (by simp)
  case hstab =>
    intro e he v x y hxy hv
    simp only [List.mem_cons, List.not_mem_nil, or_false] at he
  case hlex =>
    intro U
    have q0 := fun (v : Later (later U)) => own_row (any_own ⟨v, rfl⟩ (any_own ⟨U, rfl⟩ s0_w1))
    simp only [absFrom, absOp, idx, List.map_cons, List.map_nil, List.contains_cons, List.contains_nil, Nat.reduceBEq, Bool.or_false, Bool.false_or, Bool.true_or, Bool.or_true, Bool.false_eq_true, Nat.reduceLeDiff, Nat.reduceAdd, if_false, if_true]
    repeat (go_big_quiet_step ((go_at_call 82; exact in_later (HS.out _ (by repeat' (first | with_reducible assumption | with_reducible exact AnyLater.refl _ | with_reducible apply AnyLater.setCell | with_reducible apply AnyLater.later | with_reducible apply AnyLater.drewN | with_reducible apply AnyLater.drew | with_reducible apply AnyLater.alloc | ((try simp only [World.size_alloc, World.size_setCell, World.size_drew]); (try dsimp only); omega)))))))
    exact wpQuiet_nil rfl
  case hown =>
    intro e he o ho
    simp only [List.mem_cons, List.not_mem_nil, or_false] at he
  case htail =>
    intro g u hst hne
    have b_w2 : AnyLater w1 (later u) := ⟨u, rfl⟩
    generalize later u = w2 at *
    clear u
    clear hst hne
    simp only [fillAll, Act.put, List.setIfInBounds_toArray, List.set_cons_zero, List.set_cons_succ, List.drop_succ_cons, List.drop_zero]
    have z_w2 := b_w2.below.size
    have a_w2 := a_w1.trans b_w2
    have s0_w2 := any_own b_w2 s0_w1
    have r0_w2 := own_row s0_w2
    have f0_w2 := own_free s0_w2
    have l0_w2 := own_lt s0_w2
    (try clear r0_w1); (try clear f0_w1)
    go_wp2_with fail
    go_ret
    refine ⟨_, rfl, a_w2.alloc _, HT.out _ _ (a_w2.alloc _) (heap_new rfl)⟩
end Go.Proofs.YtiicaldnegcdiaaGreat
