/- folds, the program: Drop, hides, Hidden, hiding, Hides, Heads by contract. -/
import Derived.Test.YtiicaldnegcdiaaFldC
import Derived.Test.YtiicaldnegcdiaaTxtC
import Derived.Test.YtiicaldnegcdiaaBandsB
namespace Go.Proofs.Ytiicaldnegcdiaa
set_option linter.unusedSimpArgs false
set_option linter.unusedVariables false
set_option linter.unusedSectionVars false
open Go.RowKit

/-! ### Drop -/
theorem dropclo_any (b1 b2 y : Int) (q : Nat) (c : Bool) (w : World) (hp : w.heap[q]? = some (.cells #[.int .i64 y] 3)) (hc : decide (b1 ≤ y ∧ y < b2) = c) :
    Calls Try.prog 100 #[.agg #[.int .i64 b1, .int .i64 b2], .pointer (some ⟨q, 0, none⟩)] w fun e w' => e = .returned (.bool c) ∧ AnyLater w w' := by
  have r9_w := own_row hp
  have l9_w := own_lt hp
  have HO := Lib.hid hc
  clear hc hp
  have HA := Lib.hid ((AnyLater.refl w).alloc (.cells #[.int .i64 b1, .int .i64 b2] 75))
  by_cases h1 : b1 ≤ y
  · by_cases h2 : y < b2
    · have HB : Hid (true = c) := Lib.hid (by rw [← HO.out]; exact (decide_eq_true ⟨h1, h2⟩).symm)
      go_enter Try.func100, Try.ntmps100
      go_wp2_with fail
      go_ret
      exact ⟨ret_bool HB.out, HA.out⟩
    · have HB : Hid (false = c) := Lib.hid (by rw [← HO.out]; exact (decide_eq_false (fun h => h2 h.2)).symm)
      have d2 : decide (y < b2) = false := decide_eq_false h2
      go_enter Try.func100, Try.ntmps100
      go_wp2_with fail
      go_ret
      exact ⟨ret_bool HB.out, HA.out⟩
  · have HB : Hid (false = c) := Lib.hid (by rw [← HO.out]; exact (decide_eq_false (fun h => h1 h.1)).symm)
    have d1 : decide (b1 ≤ y) = false := decide_eq_false h1
    go_enter Try.func100, Try.ntmps100
    go_wp2_with fail
    go_ret
    exact ⟨ret_bool HB.out, HA.out⟩
/-- what Drop answers -/
def hasP (y : Int) (s : Int × Int) : Bool := decide (s.1 ≤ y ∧ y < s.2)
def dropC (l : Qs) (y : Int) : Int := if l.any (hasP y) = true then 0 else 3
def dropL (l : Qs) (y : Int) : Qs := if l.any (hasP y) = true then l.take (l.findIdx (hasP y)) ++ l.drop (l.findIdx (hasP y) + 1) else []
def DropS (l : Qs) (y : Int) (W : World) (e : Ending) (w' : World) : Prop := ∃ u, e = .returned (.tuple #[u, .int .i64 (dropC l y)]) ∧ AnyLater W w' ∧ QR w' u (dropL l y)
theorem drop_none {l : Qs} {y : Int} (h : l.any (hasP y) = false) : dropC l y = 3 ∧ dropL l y = [] := by unfold dropC dropL; rw [if_neg (by rw [h]; decide), if_neg (by rw [h]; decide)]; exact ⟨rfl, rfl⟩
theorem drop_at {l : Qs} {y : Int} {j : Nat} (h : j < l.length) (hf : (l.take j).any (hasP y) = false) (hp : hasP y l[j] = true) : dropC l y = 0 ∧ dropL l y = l.take j ++ l.drop (j + 1) := by
  have h1 : l.any (hasP y) = true := List.any_eq_true.2 ⟨_, List.getElem_mem h, hp⟩
  have h2 := idxV_at h hf hp
  unfold idxV at h2
  rw [if_pos h1] at h2
  have h3 : l.findIdx (hasP y) = j := by omega
  unfold dropC dropL
  rw [if_pos h1, if_pos h1, h3]
  exact ⟨rfl, rfl⟩
set_option maxRecDepth 100000 in
set_option maxHeartbeats 1600000 in
theorem fdrop_any (v : Value) (l : Qs) (y : Int) (w : World) (hv : QR w v l) (hl : l.length ≤ 60000) : Calls Try.prog 60 #[v, .int .i64 y] w (DropS l y w) := by
  have hcf : ∀ args w, (callFunc 100 args).run Try.prog w = .ok (.enter 100 args) w := enters_of Try.func100 (by kernel_rfl) rfl
  have hdo : ∀ q, TestsQ (fun x => x.heap[q]? = some (.cells #[.int .i64 y] 3)) 100 #[.pointer (some ⟨q, 0, none⟩)] (hasP y) := fun q b1 b2 w' hp => dropclo_any b1 b2 y q _ w' hp rfl
  have HI := Lib.hid (fun (w' : World) (q : Nat) (h : AnyLater w w') (hp : w'.heap[q]? = some (.cells #[.int .i64 y] 3)) => qindex_any v _ _ (hasP y) l _ w' _ rfl (hv.later h) (by omega) hp (fun _ _ h1 h2 => any_own h2 h1) hcf (hdo q))
  clear hcf hdo
  rcases idxV_cases (hasP y) l with ⟨h1, h2⟩ | ⟨-, j, h2, lj, hf, hp⟩
  · have HE := Lib.hid (drop_none h1)
    rw [h2] at HI
    obtain ⟨A, cap, rfl, -⟩ := hv.form
    clear hv hl h1 h2
    generalize l.length = m at *
    go_enter Try.func60, Try.ntmps60
    go_wp2_with fail
    first | refine settle_wp (fun wS => AnyLater w wS ∧ wS.heap[w.heap.size]? = some (.cells #[.int .i64 y] 3)) ?_ ?_ | refine settle_calls (fun wS => AnyLater w wS ∧ wS.heap[w.heap.size]? = some (.cells #[.int .i64 y] 3)) ?_ ?_
    · refine ⟨?_, ?_⟩
      · repeat' (first | with_reducible assumption | with_reducible exact AnyLater.refl _ | with_reducible apply AnyLater.setCell | with_reducible apply AnyLater.later | with_reducible apply AnyLater.drewN | with_reducible apply AnyLater.drew | with_reducible apply AnyLater.alloc | ((try simp only [World.size_alloc, World.size_setCell, World.size_drew]); (try dsimp only); omega))
      · ((repeat (first | with_reducible assumption | ((with_reducible apply heap_new); (try simp only [World.size_alloc, World.size_setCell, World.size_drew, World.heap_drewN]); done) | ((with_reducible apply heap_new); (try simp only [World.size_alloc, World.size_setCell, World.size_drew, World.heap_drewN]); omega) | (with_reducible refine heap_old (by (try simp only [World.size_alloc, World.size_setCell, World.size_drew, World.heap_drewN]); omega) ?_) | (with_reducible refine heap_drew ?_) | (with_reducible refine heap_far (by omega) ?_) | (with_reducible apply heap_at))); all_goals rfl)
    rintro w1 ⟨b_w1, s0_w1⟩
    have a_w1 := b_w1
    have r0_w1 := own_row s0_w1
    have f0_w1 := own_free s0_w1
    have l0_w1 := own_lt s0_w1
    have z_w1 := b_w1.below.size
    refine (HI.out _ _ a_w1 s0_w1).mono ?_
    rintro e w2 ⟨rfl, b_w2⟩
    have z_w2 := b_w2.below.size
    have a_w2 := a_w1.trans b_w2
    have s0_w2 := any_own b_w2 s0_w1
    have r0_w2 := own_row s0_w2
    have f0_w2 := own_free s0_w2
    have l0_w2 := own_lt s0_w2
    (try clear r0_w1); (try clear f0_w1)
    go_wp2_with fail
    refine bodyPost_ret (v := .tuple #[.slice none 0 0, .int .i64 3]) (by simp [results, Try.results60, go_sem]) rfl ⟨_, by rw [HE.out.1], a_w2, by rw [HE.out.2]; exact QR.void _ _ _⟩
  · have HE := Lib.hid (drop_at lj hf hp)
    rw [h2] at HI
    obtain ⟨A1, cap1, p1, k1⟩ := hv.uptoQ pairSpan j (by omega)
    obtain ⟨u3, p3, k3⟩ := hv.cutQ pairSpan (j + 1) (by omega)
    have k3' : ∀ w', (Instr.sliceAt 69 v (some (.int .i64 ((j : Int) + 1))) none none).run Try.prog w' = .ok u3 w' := k3
    have K1 := Lib.hid k1
    have K3 := Lib.hid k3'
    have HCat := Lib.hid (fun (x : World) (u : Value) (hx : AnyLater w x) (h : IsPair (.slice A1 j cap1) u3 u x) => (show Calls Try.prog 95 #[u] x (fun e w' => ∃ y, e = .returned y ∧ AnyLater x w' ∧ QR w' y (l.take j ++ l.drop (j + 1))) from by
      obtain ⟨g, rfl, h0, h1, h2⟩ := h
      exact (qcat_two g _ u3 _ _ x h0 h1 h2 (p1.later hx) (p3.later hx) (by rw [List.length_take, List.length_drop]; omega)).mono fun _ _ q => q.qr))
    obtain ⟨A3, cap3, rfl, -⟩ := p3.form
    obtain ⟨A, cap, rfl, -⟩ := hv.form
    have hj : (j : Int) + 1 ≤ 60000 := by omega
    clear hv h2 hf hp p1 p3 k1 k3 k3'
    generalize (l.drop (j + 1)).length = m3 at *
    generalize l.length = m at *
    go_enter Try.func60, Try.ntmps60
    go_wp2_with fail
    first | refine settle_wp (fun wS => AnyLater w wS ∧ wS.heap[w.heap.size]? = some (.cells #[.int .i64 y] 3)) ?_ ?_ | refine settle_calls (fun wS => AnyLater w wS ∧ wS.heap[w.heap.size]? = some (.cells #[.int .i64 y] 3)) ?_ ?_
    · refine ⟨?_, ?_⟩
      · repeat' (first | with_reducible assumption | with_reducible exact AnyLater.refl _ | with_reducible apply AnyLater.setCell | with_reducible apply AnyLater.later | with_reducible apply AnyLater.drewN | with_reducible apply AnyLater.drew | with_reducible apply AnyLater.alloc | ((try simp only [World.size_alloc, World.size_setCell, World.size_drew]); (try dsimp only); omega))
      · ((repeat (first | with_reducible assumption | ((with_reducible apply heap_new); (try simp only [World.size_alloc, World.size_setCell, World.size_drew, World.heap_drewN]); done) | ((with_reducible apply heap_new); (try simp only [World.size_alloc, World.size_setCell, World.size_drew, World.heap_drewN]); omega) | (with_reducible refine heap_old (by (try simp only [World.size_alloc, World.size_setCell, World.size_drew, World.heap_drewN]); omega) ?_) | (with_reducible refine heap_drew ?_) | (with_reducible refine heap_far (by omega) ?_) | (with_reducible apply heap_at))); all_goals rfl)
    rintro w1 ⟨b_w1, s0_w1⟩
    have a_w1 := b_w1
    have r0_w1 := own_row s0_w1
    have f0_w1 := own_free s0_w1
    have l0_w1 := own_lt s0_w1
    have z_w1 := b_w1.below.size
    refine (HI.out _ _ a_w1 s0_w1).mono ?_
    rintro e w2 ⟨rfl, b_w2⟩
    have z_w2 := b_w2.below.size
    have a_w2 := a_w1.trans b_w2
    have s0_w2 := any_own b_w2 s0_w1
    have r0_w2 := own_row s0_w2
    have f0_w2 := own_free s0_w2
    have l0_w2 := own_lt s0_w2
    (try clear r0_w1); (try clear f0_w1)
    have d0 : decide ((j : Int) < 0) = false := decide_eq_false (by omega)
    go_wp2_with fail
    apply Wild.wp_region_free (11) [⟨2, 14, .slice A1 j cap1, false, fun v _ => v = .slice A1 j cap1⟩, ⟨6, 18, .slice A3 m3 cap3, false, fun v _ => v = .slice A3 m3 cap3⟩, ⟨7, 19, undef, true, IsPair (.slice A1 j cap1) (.slice A3 m3 cap3)⟩, ⟨8, 20, undef, true, fun u w => QR w u (l.take j ++ l.drop (j + 1))⟩, ⟨9, 4, undef, true, fun u w => QR w u (l.take j ++ l.drop (j + 1))⟩] [⟨7, 19, IsPair (.slice A1 j cap1) (.slice A3 m3 cap3)⟩, ⟨8, 20, fun u w => QR w u (l.take j ++ l.drop (j + 1))⟩, ⟨9, 4, fun u w => QR w u (l.take j ++ l.drop (j + 1))⟩] rfl (by kernel_rfl) (by kernel_rfl) (by kernel_rfl) (by simp) (by kernel_rfl)
    case hstab =>
      intro c hc
      simp only [List.mem_cons, List.not_mem_nil, or_false] at hc
      rcases hc with rfl | rfl | rfl | rfl | rfl
      · intro v x y hxy hv; exact hv
      · intro v x y hxy hv; exact hv
      · intro v x y hxy hv; exact (fun h k => IsPair.later h k) hxy hv
      · intro v x y hxy hv; exact (fun h k => QR.later k h) hxy hv
      · intro v x y hxy hv; exact (fun h k => QR.later k h) hxy hv
    case hfix =>
      intro c hc
      simp only [List.mem_cons, List.not_mem_nil, or_false] at hc
      rcases hc with rfl | rfl | rfl | rfl | rfl
      · exact .inr fun u x h => h
      · exact .inr fun u x h => h
      · exact .inl rfl
      · exact .inl rfl
      · exact .inl rfl
    case hlex =>
      intro U hU
      have q0 := own_row (any_own hU s0_w2)
      simp only [List.map_cons, List.map_nil, CA.act, actFrom, actOp, List.lookup, Nat.reduceBEq, Nat.reduceLeDiff, Nat.reduceAdd, if_false, if_true]
      repeat (go_big_quiet_step (fail))
      exact wpQuiet_nil rfl
    case hstep =>
      intro j hj o ho
      have hj2 : j = 0 ∨ j = 1 ∨ j = 2 ∨ j = 3 ∨ j = 4 := by simp at hj; omega
      rcases hj2 with rfl | rfl | rfl | rfl | rfl
      · cases ho
        refine ⟨rfl, fun g x hx hp => ?_⟩
        clear hp
        simp only [fillAll, Act.put, List.setIfInBounds_toArray, List.set_cons_zero, List.set_cons_succ]
        (refine Wild.free_op ?_; simp [go_sem, execOp, K1.out])
      · cases ho
        refine ⟨rfl, fun g x hx hp => ?_⟩
        clear hp
        simp only [fillAll, Act.put, List.setIfInBounds_toArray, List.set_cons_zero, List.set_cons_succ]
        (refine Wild.free_op ?_; simp [go_sem, execOp, K3.out])
      · cases ho
        refine ⟨rfl, fun g x hx hp => ?_⟩
        clear hp
        simp only [fillAll, Act.put, List.setIfInBounds_toArray, List.set_cons_zero, List.set_cons_succ]
        (refine Wild.free_make (v := .slice (some ⟨x.heap.size, 0, none⟩) 2 2) (w' := x.alloc (.cells #[.slice A1 j cap1, .slice A3 m3 cap3] 69)) (by simp [go_sem, execOp]) ((AnyLater.refl x).alloc _) pair_new)
      · cases ho
        refine ⟨rfl, fun g x hx hp => ?_⟩
        have p19 : (IsPair (.slice A1 j cap1) (.slice A3 m3 cap3)) (g 7) x := hp _ (List.mem_of_getElem? (i := 0) rfl) (List.contains_iff_mem.1 (by kernel_rfl))
        clear hp
        simp only [fillAll, Act.put, List.setIfInBounds_toArray, List.set_cons_zero, List.set_cons_succ]
        refine chain_go ?_ (Wild.free_tells (HCat.out x _ (a_w2.trans hx) p19))
        simp [go_sem, execOp]
      · cases ho
        refine ⟨rfl, fun g x hx hp => ?_⟩
        have p20 : (fun u w => QR w u (l.take j ++ l.drop (j + 1))) (g 8) x := hp _ (List.mem_of_getElem? (i := 1) rfl) (List.contains_iff_mem.1 (by kernel_rfl))
        clear hp
        simp only [fillAll, Act.put, List.setIfInBounds_toArray, List.set_cons_zero, List.set_cons_succ]
        refine Wild.free_is (v := g 8) ?_ p20; simp [go_sem, execOp]
    case htail =>
      intro g u hst hne
      have b_w3 : AnyLater w2 (later u) := ⟨u, rfl⟩
      generalize later u = w3 at *
      clear u hne
      obtain ⟨p19_w3, -⟩ := hst _ (List.mem_of_getElem? (i := 0) rfl)
      (try dsimp only at p19_w3)
      obtain ⟨p20_w3, -⟩ := hst _ (List.mem_of_getElem? (i := 1) rfl)
      (try dsimp only at p20_w3)
      obtain ⟨p4_w3, -⟩ := hst _ (List.mem_of_getElem? (i := 2) rfl)
      (try dsimp only at p4_w3)
      clear hst
      simp only [fillAll, Act.put, List.setIfInBounds_toArray, List.set_cons_zero, List.set_cons_succ, List.drop_succ_cons, List.drop_zero, List.drop_nil]
      generalize g 7 = v19 at *
      generalize g 8 = v20 at *
      generalize g 9 = v4 at *
      have z_w3 := b_w3.below.size
      have a_w3 := a_w2.trans b_w3
      have s0_w3 := any_own b_w3 s0_w2
      have r0_w3 := own_row s0_w3
      have f0_w3 := own_free s0_w3
      have l0_w3 := own_lt s0_w3
      (try clear r0_w2); (try clear f0_w2)
      go_wp2_with fail
      refine bodyPost_ret (v := .tuple #[v4, .int .i64 0]) (by simp [results, Try.results60, go_sem]) rfl ⟨_, by rw [HE.out.1], a_w3, by rw [HE.out.2]; exact p4_w3⟩

/-! ### the line of any place -/
def placeK (F : List Int) (n x : Int) : Int := if 0 ≤ x ∧ x ≤ n then ((below x F : Nat) : Int) else 0
def placeC (F : List Int) (n x : Int) : Int := if 0 ≤ x ∧ x ≤ n then x - lnS F (below x F) else 0
theorem fplace_any (tg g : Nat) (most : Int) (t : Tr) (x k c : Int) (b : Bool) (w : World) (h : IsTx w tg g most t) (ok : t.Ok) (hk : placeK (fds t) t.len x = k) (hc : placeC (fds t) t.len x = c) (hb : decide (0 ≤ x ∧ x ≤ (t.len : Int)) = b) :
    Calls Try.prog 43 #[.pointer (some ⟨tg, 0, none⟩), .int .i64 x] w fun e w' => e = .returned (.tuple #[.int .i64 k, .int .i64 c, .bool b]) ∧ AnyLater w w' := by
  subst hk hc hb
  unfold placeK placeC
  by_cases hx : 0 ≤ x ∧ x ≤ (t.len : Int)
  · rw [if_pos hx, if_pos hx, decide_eq_true hx]
    obtain ⟨X, rfl⟩ := Int.eq_ofNat_of_zero_le hx.1
    obtain ⟨b1, b2, b3, b4⟩ := below_ln (F := fds t) hx.1 hx.2
    have h0 := (fds_ok t).s0 b1
    exact tplace_yes tg g most t X _ _ w h ok (by omega) rfl rfl ⟨h0, b2⟩ (by rw [← fds_len t]; exact b1)
  · rw [if_neg hx, if_neg hx, decide_eq_false hx]
    exact tplace_no tg g most t x w h (by omega)

/-! ### hides -/
set_option maxRecDepth 100000 in
theorem fhides_any (f e0 : Int) (tg g : Nat) (most : Int) (t : Tr) (c : Int × Int) (w : World) (h : IsTx w tg g most t) (ok : t.Ok) (hc : bandS (fds t) t.len (f, e0) = c) :
    Calls Try.prog 133 #[.agg #[.int .i64 f, .int .i64 e0], .pointer (some ⟨tg, 0, none⟩)] w fun e w' => e = .returned (.agg #[.int .i64 c.1, .int .i64 c.2]) ∧ AnyLater w w' := by
  have HP := Lib.hid (fun (w' : World) (x k c : Int) (b : Bool) (a : AnyLater w w') => fplace_any tg g most t x k c b w' (h.later a) ok)
  have hF : (fds t).length ≤ 60000 := by rw [fds_len]; exact ok.nf
  obtain ⟨k1, hk1⟩ : ∃ k, placeK (fds t) t.len f = k := ⟨_, rfl⟩
  obtain ⟨c1, hc1⟩ : ∃ k, placeC (fds t) t.len f = k := ⟨_, rfl⟩
  obtain ⟨k2, hk2⟩ : ∃ k, placeK (fds t) t.len e0 = k := ⟨_, rfl⟩
  obtain ⟨c2, hc2⟩ : ∃ k, placeC (fds t) t.len e0 = k := ⟨_, rfl⟩
  have HK := Lib.hid (And.intro (And.intro hk1 hc1) (And.intro hk2 hc2))
  have l1 := below_le (fds t) f
  have l2 := below_le (fds t) e0
  have hb1 : 0 ≤ k1 ∧ k1 ≤ 60000 := by rw [← hk1]; unfold placeK; split <;> omega
  have hb2 : 0 ≤ k2 ∧ k2 ≤ 60000 := by rw [← hk2]; unfold placeK; split <;> omega
  unfold placeK at hk1 hk2
  unfold bandS at hc
  simp only at hc
  by_cases q1 : 0 ≤ f ∧ f ≤ (t.len : Int)
  · rw [if_pos q1] at hk1
    have HQ1 := Lib.hid (decide_eq_true q1)
    by_cases q2 : 0 ≤ e0 ∧ e0 ≤ (t.len : Int)
    · rw [if_pos q2] at hk2
      rw [if_pos ⟨q1.1, q1.2, q2.1, q2.2⟩, hk1, hk2] at hc
      have HC := Lib.hid hc
      have HQ2 := Lib.hid (decide_eq_true q2)
      clear h ok hF hk1 hk2 hc1 hc2 hc l1 l2 q1 q2
      go_enter Try.func133, Try.ntmps133
      go_wp2_with fail
      first | refine settle_wp (fun wS => AnyLater w wS ∧ wS.heap[w.heap.size]? = some (.cells #[.int .i64 f, .int .i64 e0] 75) ∧ wS.heap[w.heap.size + 1]? = some (.cells #[.int .i64 0, .int .i64 0] 88)) ?_ ?_ | refine settle_calls (fun wS => AnyLater w wS ∧ wS.heap[w.heap.size]? = some (.cells #[.int .i64 f, .int .i64 e0] 75) ∧ wS.heap[w.heap.size + 1]? = some (.cells #[.int .i64 0, .int .i64 0] 88)) ?_ ?_
      · refine ⟨?_, ?_, ?_⟩
        · repeat' (first | with_reducible assumption | with_reducible exact AnyLater.refl _ | with_reducible apply AnyLater.setCell | with_reducible apply AnyLater.later | with_reducible apply AnyLater.drewN | with_reducible apply AnyLater.drew | with_reducible apply AnyLater.alloc | ((try simp only [World.size_alloc, World.size_setCell, World.size_drew]); (try dsimp only); omega))
        · ((repeat (first | with_reducible assumption | ((with_reducible apply heap_new); (try simp only [World.size_alloc, World.size_setCell, World.size_drew, World.heap_drewN]); done) | ((with_reducible apply heap_new); (try simp only [World.size_alloc, World.size_setCell, World.size_drew, World.heap_drewN]); omega) | (with_reducible refine heap_old (by (try simp only [World.size_alloc, World.size_setCell, World.size_drew, World.heap_drewN]); omega) ?_) | (with_reducible refine heap_drew ?_) | (with_reducible refine heap_far (by omega) ?_) | (with_reducible apply heap_at))); all_goals rfl)
        · ((repeat (first | with_reducible assumption | ((with_reducible apply heap_new); (try simp only [World.size_alloc, World.size_setCell, World.size_drew, World.heap_drewN]); done) | ((with_reducible apply heap_new); (try simp only [World.size_alloc, World.size_setCell, World.size_drew, World.heap_drewN]); omega) | (with_reducible refine heap_old (by (try simp only [World.size_alloc, World.size_setCell, World.size_drew, World.heap_drewN]); omega) ?_) | (with_reducible refine heap_drew ?_) | (with_reducible refine heap_far (by omega) ?_) | (with_reducible apply heap_at))); all_goals rfl)
      rintro w1 ⟨b_w1, s0_w1, s1_w1⟩
      have a_w1 := b_w1
      have r0_w1 := own_row s0_w1
      have f0_w1 := own_free s0_w1
      have l0_w1 := own_lt s0_w1
      have r1_w1 := own_row s1_w1
      have f1_w1 := own_free s1_w1
      have l1_w1 := own_lt s1_w1
      have z_w1 := b_w1.below.size
      refine (HP.out _ f k1 c1 true a_w1 HK.out.1.1 HK.out.1.2 HQ1.out).mono ?_
      rintro e w2 ⟨rfl, b_w2⟩
      have z_w2 := b_w2.below.size
      have a_w2 := a_w1.trans b_w2
      have s0_w2 := any_own b_w2 s0_w1
      have s1_w2 := any_own b_w2 s1_w1
      have r0_w2 := own_row s0_w2
      have f0_w2 := own_free s0_w2
      have l0_w2 := own_lt s0_w2
      have r1_w2 := own_row s1_w2
      have f1_w2 := own_free s1_w2
      have l1_w2 := own_lt s1_w2
      (try clear r0_w1); (try clear f0_w1)
      (try clear r1_w1); (try clear f1_w1)
      go_wp2_with fail
      refine (HP.out _ e0 k2 c2 true a_w2 HK.out.2.1 HK.out.2.2 HQ2.out).mono ?_
      rintro e w3 ⟨rfl, b_w3⟩
      have z_w3 := b_w3.below.size
      have a_w3 := a_w2.trans b_w3
      have s0_w3 := any_own b_w3 s0_w2
      have s1_w3 := any_own b_w3 s1_w2
      have r0_w3 := own_row s0_w3
      have f0_w3 := own_free s0_w3
      have l0_w3 := own_lt s0_w3
      have r1_w3 := own_row s1_w3
      have f1_w3 := own_free s1_w3
      have l1_w3 := own_lt s1_w3
      (try clear r0_w2); (try clear f0_w2)
      (try clear r1_w2); (try clear f1_w2)
      go_wp2_with fail
      have s9 := heap_at (i := 0 + 1) (v := .int .i64 (k2 + 1)) (heap_at (i := 0) (v := .int .i64 (k1 + 1)) s1_w3 rfl) rfl
      have r9 := own_row s9
      refine bodyPost_ret (v := .agg #[.int .i64 (k1 + 1), .int .i64 (k2 + 1)]) (by simp [results, Try.results133, go_sem, r9]) rfl ⟨by rw [← HC.out], ?_⟩
      exact (a_w3.setCell (p := ⟨w.heap.size + 1, 0, none⟩) (Nat.le_succ _) _).setCell (p := ⟨w.heap.size + 1, 0 + 1, none⟩) (Nat.le_succ _) _
    · rw [if_neg (fun q => q2 ⟨q.2.2.1, q.2.2.2⟩)] at hc
      have HC := Lib.hid hc
      have HQ2 := Lib.hid (decide_eq_false q2)
      clear h ok hF hk1 hk2 hc1 hc2 hc l1 l2 q1 q2
      go_enter Try.func133, Try.ntmps133
      go_wp2_with fail
      first | refine settle_wp (fun wS => AnyLater w wS ∧ wS.heap[w.heap.size]? = some (.cells #[.int .i64 f, .int .i64 e0] 75) ∧ wS.heap[w.heap.size + 1]? = some (.cells #[.int .i64 0, .int .i64 0] 88)) ?_ ?_ | refine settle_calls (fun wS => AnyLater w wS ∧ wS.heap[w.heap.size]? = some (.cells #[.int .i64 f, .int .i64 e0] 75) ∧ wS.heap[w.heap.size + 1]? = some (.cells #[.int .i64 0, .int .i64 0] 88)) ?_ ?_
      · refine ⟨?_, ?_, ?_⟩
        · repeat' (first | with_reducible assumption | with_reducible exact AnyLater.refl _ | with_reducible apply AnyLater.setCell | with_reducible apply AnyLater.later | with_reducible apply AnyLater.drewN | with_reducible apply AnyLater.drew | with_reducible apply AnyLater.alloc | ((try simp only [World.size_alloc, World.size_setCell, World.size_drew]); (try dsimp only); omega))
        · ((repeat (first | with_reducible assumption | ((with_reducible apply heap_new); (try simp only [World.size_alloc, World.size_setCell, World.size_drew, World.heap_drewN]); done) | ((with_reducible apply heap_new); (try simp only [World.size_alloc, World.size_setCell, World.size_drew, World.heap_drewN]); omega) | (with_reducible refine heap_old (by (try simp only [World.size_alloc, World.size_setCell, World.size_drew, World.heap_drewN]); omega) ?_) | (with_reducible refine heap_drew ?_) | (with_reducible refine heap_far (by omega) ?_) | (with_reducible apply heap_at))); all_goals rfl)
        · ((repeat (first | with_reducible assumption | ((with_reducible apply heap_new); (try simp only [World.size_alloc, World.size_setCell, World.size_drew, World.heap_drewN]); done) | ((with_reducible apply heap_new); (try simp only [World.size_alloc, World.size_setCell, World.size_drew, World.heap_drewN]); omega) | (with_reducible refine heap_old (by (try simp only [World.size_alloc, World.size_setCell, World.size_drew, World.heap_drewN]); omega) ?_) | (with_reducible refine heap_drew ?_) | (with_reducible refine heap_far (by omega) ?_) | (with_reducible apply heap_at))); all_goals rfl)
      rintro w1 ⟨b_w1, s0_w1, s1_w1⟩
      have a_w1 := b_w1
      have r0_w1 := own_row s0_w1
      have f0_w1 := own_free s0_w1
      have l0_w1 := own_lt s0_w1
      have r1_w1 := own_row s1_w1
      have f1_w1 := own_free s1_w1
      have l1_w1 := own_lt s1_w1
      have z_w1 := b_w1.below.size
      refine (HP.out _ f k1 c1 true a_w1 HK.out.1.1 HK.out.1.2 HQ1.out).mono ?_
      rintro e w2 ⟨rfl, b_w2⟩
      have z_w2 := b_w2.below.size
      have a_w2 := a_w1.trans b_w2
      have s0_w2 := any_own b_w2 s0_w1
      have s1_w2 := any_own b_w2 s1_w1
      have r0_w2 := own_row s0_w2
      have f0_w2 := own_free s0_w2
      have l0_w2 := own_lt s0_w2
      have r1_w2 := own_row s1_w2
      have f1_w2 := own_free s1_w2
      have l1_w2 := own_lt s1_w2
      (try clear r0_w1); (try clear f0_w1)
      (try clear r1_w1); (try clear f1_w1)
      go_wp2_with fail
      refine (HP.out _ e0 k2 c2 false a_w2 HK.out.2.1 HK.out.2.2 HQ2.out).mono ?_
      rintro e w3 ⟨rfl, b_w3⟩
      have z_w3 := b_w3.below.size
      have a_w3 := a_w2.trans b_w3
      have s0_w3 := any_own b_w3 s0_w2
      have s1_w3 := any_own b_w3 s1_w2
      have r0_w3 := own_row s0_w3
      have f0_w3 := own_free s0_w3
      have l0_w3 := own_lt s0_w3
      have r1_w3 := own_row s1_w3
      have f1_w3 := own_free s1_w3
      have l1_w3 := own_lt s1_w3
      (try clear r0_w2); (try clear f0_w2)
      (try clear r1_w2); (try clear f1_w2)
      go_wp2_with fail
      have s9 := heap_at (i := 0 + 1) (v := .int .i64 0) (heap_at (i := 0) (v := .int .i64 0) s1_w3 rfl) rfl
      have r9 := own_row s9
      refine bodyPost_ret (v := .agg #[.int .i64 0, .int .i64 0]) (by simp [results, Try.results133, go_sem, r9]) rfl ⟨by rw [← HC.out], ?_⟩
      exact (a_w3.setCell (p := ⟨w.heap.size + 1, 0, none⟩) (Nat.le_succ _) _).setCell (p := ⟨w.heap.size + 1, 0 + 1, none⟩) (Nat.le_succ _) _
  · rw [if_neg (fun q => q1 ⟨q.1, q.2.1⟩)] at hc
    have HC := Lib.hid hc
    have HQ1 := Lib.hid (decide_eq_false q1)
    obtain ⟨b2, hb2⟩ : ∃ b, decide (0 ≤ e0 ∧ e0 ≤ (t.len : Int)) = b := ⟨_, rfl⟩
    have HQ2 := Lib.hid hb2
    clear h ok hF hk1 hk2 hc1 hc2 hc l1 l2 q1 hb2
    go_enter Try.func133, Try.ntmps133
    go_wp2_with fail
    first | refine settle_wp (fun wS => AnyLater w wS ∧ wS.heap[w.heap.size]? = some (.cells #[.int .i64 f, .int .i64 e0] 75) ∧ wS.heap[w.heap.size + 1]? = some (.cells #[.int .i64 0, .int .i64 0] 88)) ?_ ?_ | refine settle_calls (fun wS => AnyLater w wS ∧ wS.heap[w.heap.size]? = some (.cells #[.int .i64 f, .int .i64 e0] 75) ∧ wS.heap[w.heap.size + 1]? = some (.cells #[.int .i64 0, .int .i64 0] 88)) ?_ ?_
    · refine ⟨?_, ?_, ?_⟩
      · repeat' (first | with_reducible assumption | with_reducible exact AnyLater.refl _ | with_reducible apply AnyLater.setCell | with_reducible apply AnyLater.later | with_reducible apply AnyLater.drewN | with_reducible apply AnyLater.drew | with_reducible apply AnyLater.alloc | ((try simp only [World.size_alloc, World.size_setCell, World.size_drew]); (try dsimp only); omega))
      · ((repeat (first | with_reducible assumption | ((with_reducible apply heap_new); (try simp only [World.size_alloc, World.size_setCell, World.size_drew, World.heap_drewN]); done) | ((with_reducible apply heap_new); (try simp only [World.size_alloc, World.size_setCell, World.size_drew, World.heap_drewN]); omega) | (with_reducible refine heap_old (by (try simp only [World.size_alloc, World.size_setCell, World.size_drew, World.heap_drewN]); omega) ?_) | (with_reducible refine heap_drew ?_) | (with_reducible refine heap_far (by omega) ?_) | (with_reducible apply heap_at))); all_goals rfl)
      · ((repeat (first | with_reducible assumption | ((with_reducible apply heap_new); (try simp only [World.size_alloc, World.size_setCell, World.size_drew, World.heap_drewN]); done) | ((with_reducible apply heap_new); (try simp only [World.size_alloc, World.size_setCell, World.size_drew, World.heap_drewN]); omega) | (with_reducible refine heap_old (by (try simp only [World.size_alloc, World.size_setCell, World.size_drew, World.heap_drewN]); omega) ?_) | (with_reducible refine heap_drew ?_) | (with_reducible refine heap_far (by omega) ?_) | (with_reducible apply heap_at))); all_goals rfl)
    rintro w1 ⟨b_w1, s0_w1, s1_w1⟩
    have a_w1 := b_w1
    have r0_w1 := own_row s0_w1
    have f0_w1 := own_free s0_w1
    have l0_w1 := own_lt s0_w1
    have r1_w1 := own_row s1_w1
    have f1_w1 := own_free s1_w1
    have l1_w1 := own_lt s1_w1
    have z_w1 := b_w1.below.size
    refine (HP.out _ f k1 c1 false a_w1 HK.out.1.1 HK.out.1.2 HQ1.out).mono ?_
    rintro e w2 ⟨rfl, b_w2⟩
    have z_w2 := b_w2.below.size
    have a_w2 := a_w1.trans b_w2
    have s0_w2 := any_own b_w2 s0_w1
    have s1_w2 := any_own b_w2 s1_w1
    have r0_w2 := own_row s0_w2
    have f0_w2 := own_free s0_w2
    have l0_w2 := own_lt s0_w2
    have r1_w2 := own_row s1_w2
    have f1_w2 := own_free s1_w2
    have l1_w2 := own_lt s1_w2
    (try clear r0_w1); (try clear f0_w1)
    (try clear r1_w1); (try clear f1_w1)
    go_wp2_with fail
    refine (HP.out _ e0 k2 c2 b2 a_w2 HK.out.2.1 HK.out.2.2 HQ2.out).mono ?_
    rintro e w3 ⟨rfl, b_w3⟩
    have z_w3 := b_w3.below.size
    have a_w3 := a_w2.trans b_w3
    have s0_w3 := any_own b_w3 s0_w2
    have s1_w3 := any_own b_w3 s1_w2
    have r0_w3 := own_row s0_w3
    have f0_w3 := own_free s0_w3
    have l0_w3 := own_lt s0_w3
    have r1_w3 := own_row s1_w3
    have f1_w3 := own_free s1_w3
    have l1_w3 := own_lt s1_w3
    (try clear r0_w2); (try clear f0_w2)
    (try clear r1_w2); (try clear f1_w2)
    go_wp2_with fail
    have s9 := heap_at (i := 0 + 1) (v := .int .i64 0) (heap_at (i := 0) (v := .int .i64 0) s1_w3 rfl) rfl
    have r9 := own_row s9
    refine bodyPost_ret (v := .agg #[.int .i64 0, .int .i64 0]) (by simp [results, Try.results133, go_sem, r9]) rfl ⟨by rw [← HC.out], ?_⟩
    exact (a_w3.setCell (p := ⟨w.heap.size + 1, 0, none⟩) (Nat.le_succ _) _).setCell (p := ⟨w.heap.size + 1, 0 + 1, none⟩) (Nat.le_succ _) _
end Go.Proofs.Ytiicaldnegcdiaa
