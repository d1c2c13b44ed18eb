/- carets, the program: moved (each end where a function tells, then Tidy) by contract, whatever the function. -/
import Derived.Test.YtkobnijjahpifaaDoorCarJ
import Derived.Test.YtkobnijjahpifaaDoorMake
namespace Go.Proofs.YtkobnijjahpifaaDoor
set_option linter.unusedSimpArgs false
set_option linter.unusedVariables false
set_option linter.unusedSectionVars false
open Go.RowKit

def bothC (f : Int → Int) (c : Ca) : Ca := (f c.1, f c.2)
theorem map_take {f : Int → Int} {l : Qs} {j : Nat} (h : j < l.length) : (l.take (j + 1)).map (bothC f) = (l.take j).map (bothC f) ++ [bothC f l[j]] := by
  rw [List.take_succ_eq_append_getElem h, List.map_append]; rfl
set_option maxRecDepth 100000 in
set_option maxHeartbeats 3200000 in
theorem moved_any (v : Value) (gc : Nat) (ba cb : Array Value) (fz : Int → Int) (l M : Qs) (w : World) (P : World → Prop) (hM : movedC fz l = M) (hv : QR w v l) (hl : l.length ≤ 39) (hP : P w) (hPl : ∀ x y, P x → AnyLater x y → P y) (hcf : ∀ args w, (callFunc gc args).run Tryd.prog w = .ok (.enter gc args) w)
    (hdo : ∀ (p : Int) (w' : World), P w' → Calls Tryd.prog gc (ba ++ #[.int .i64 p] ++ cb) w' fun e w'' => e = .returned (.int .i64 (fz p)) ∧ AnyLater w' w'') : Calls Tryd.prog 17 #[v, .func (.func gc) ba cb] w (RowT w M) := by
  obtain ⟨A, cap, rfl, h2, h3⟩ := hv
  have HCC : Hid (∀ (j : Nat) (h : j < l.length), ∃ b off, A = some ⟨b, off, none⟩ ∧ b < w.heap.size ∧ w.cell? ⟨b, off + j * 2, none⟩ = some (.int .i64 l[j].1) ∧ w.cell? ⟨b, off + j * 2 + 1, none⟩ = some (.int .i64 l[j].2)) := Lib.hid (fun j hj => by
    obtain ⟨b, off, e, hb, hc⟩ := h3 (by omega)
    exact ⟨b, off, e, hb, hc j hj⟩)
  have HTd := Lib.hid (fun (w' : World) (u : Value) (h : QR w' u (l.map (bothC fz))) => ktidy_any u _ M w' hM h (by rw [List.length_map]; exact hl))
  have HD := Lib.hid hdo
  have HP := Lib.hid (And.intro hP hPl)
  have HMl : Hid (∀ j, ((l.take j).map (bothC fz)).length ≤ 39) := Lib.hid (fun j => by rw [List.length_map, List.length_take]; omega)
  obtain ⟨n, hn⟩ : ∃ n, l.length = n := ⟨_, rfl⟩
  have HN := Lib.hid hn
  rw [hn] at h2 hl ⊢
  clear h3 hM hn hP hPl hdo
  go_enter Tryd.func17, Tryd.ntmps17
  go_wp2_with fail
  go_loopg [5, 10] n (fun kk ov iv wr => ∃ j : Nat, kk = n - j ∧ j ≤ n ∧ iv = .int .i64 (j : Int) ∧ AnyLater w wr ∧ OQ 45 wr w.heap.size ov ((l.take j).map (bothC fz)))
  case atStart => exact ⟨0, by omega, by omega, rfl, AnyLater.refl _, OQ.nil _ _ _⟩
  case round =>
    obtain ⟨j, hk, hj, rfl, a_wr, ho⟩ := hrel
    have HR := Lib.hid (And.intro a_wr ho)
    obtain ⟨A4, cap4, rfl, -⟩ := ho.form
    by_cases hlt : j < n
    · have lj : j < l.length := by rw [HN.out]; exact hlt
      obtain ⟨b, off, rfl, hb, k0, k1⟩ := HCC.out j lj
      have c0 : wr.cell? ⟨b, off + j * 2, none⟩ = some (.int .i64 l[j].1) := (a_wr.below.cell hb).trans k0
      have c1 : wr.cell? ⟨b, off + j * 2 + 1, none⟩ = some (.int .i64 l[j].2) := (a_wr.below.cell hb).trans k1
      have HT := Lib.hid (map_take (f := fz) lj)
      have lw := a_wr.below.size
      clear k0 k1
      obtain ⟨c, hc⟩ : ∃ c, l[j] = c := ⟨_, rfl⟩
      rw [hc] at c0 c1 HT
      clear hc
      obtain ⟨a, h⟩ := c
      simp only at c0 c1
      obtain ⟨px, hpx⟩ : ∃ px, fz a = px := ⟨_, rfl⟩
      obtain ⟨py, hpy⟩ : ∃ py, fz h = py := ⟨_, rfl⟩
      have HE : Hid ((l.take (j + 1)).map (bothC fz) = (l.take j).map (bothC fz) ++ [(px, py)]) := Lib.hid (by rw [HT.out]; unfold bothC; rw [hpx, hpy])
      have HD1 := Lib.hid (HD.out a)
      have HD2 := Lib.hid (HD.out h)
      rw [hpx] at HD1
      rw [hpy] at HD2
      have HL := Lib.hid (HMl.out j)
      clear hpx hpy HT ho
      generalize (l.take j).map (bothC fz) = K at *
      generalize hkl : K.length = t at *
      have HKl := Lib.hid hkl
      clear hkl
      go_wp2_with fail
      first | refine settle_wp (fun wS => AnyLater wr wS ∧ wS.heap[wr.heap.size]? = some (.cells #[.int .i64 a, .int .i64 h] 45)) ?_ ?_ | refine settle_calls (fun wS => AnyLater wr wS ∧ wS.heap[wr.heap.size]? = some (.cells #[.int .i64 a, .int .i64 h] 45)) ?_ ?_
      · refine ⟨?_, ?_⟩
        · repeat' (first | with_reducible assumption | with_reducible exact AnyLater.refl _ | with_reducible apply AnyLater.setCell | with_reducible apply AnyLater.later | with_reducible apply AnyLater.drewN | with_reducible apply AnyLater.drew | with_reducible apply AnyLater.alloc | ((try simp only [World.size_alloc, World.size_setCell, World.size_drew]); (try dsimp only); omega))
        · ((repeat (first | with_reducible assumption | ((with_reducible apply heap_new); (try simp only [World.size_alloc, World.size_setCell, World.size_drew, World.heap_drewN]); done) | ((with_reducible apply heap_new); (try simp only [World.size_alloc, World.size_setCell, World.size_drew, World.heap_drewN]); omega) | (with_reducible refine heap_old (by (try simp only [World.size_alloc, World.size_setCell, World.size_drew, World.heap_drewN]); omega) ?_) | (with_reducible refine heap_drew ?_) | (with_reducible refine heap_far (by omega) ?_) | (with_reducible apply heap_at))); all_goals rfl)
      rintro w1 ⟨b_w1, s0_w1⟩
      have a_w1 := a_wr.trans b_w1
      have r0_w1 := own_row s0_w1
      have f0_w1 := own_free s0_w1
      have l0_w1 := own_lt s0_w1
      have z_w1 := b_w1.below.size
      have HP1 := Lib.hid (HP.out.2 _ _ HP.out.1 a_w1)
      apply Wild.wp_region_free (11) [⟨4, 18, .int .i64 px, false, fun v _ => v = .int .i64 px⟩, ⟨8, 22, .int .i64 py, false, fun v _ => v = .int .i64 py⟩, ⟨10, 24, undef, true, fun u w => QR w u [(px, py)]⟩] [⟨10, 24, fun u w => QR w u [(px, py)]⟩] rfl (by kernel_rfl) (by kernel_rfl) (by kernel_rfl) (by simp) (by kernel_rfl)
      case hstab =>
        intro c hc
        simp only [List.mem_cons, List.not_mem_nil, or_false] at hc
        rcases hc with rfl | rfl | rfl
        · intro v x y hxy hv; exact hv
        · intro v x y hxy hv; exact hv
        · intro v x y hxy hv; exact (fun h k => QR.later k h) hxy hv
      case hfix =>
        intro c hc
        simp only [List.mem_cons, List.not_mem_nil, or_false] at hc
        rcases hc with rfl | rfl | rfl
        · exact .inr fun u x h => h
        · exact .inr fun u x h => h
        · exact .inl rfl
      case hlex =>
        intro U hU
        have q0 := own_row (any_own hU s0_w1)
        simp only [List.map_cons, List.map_nil, CA.act, actFrom, actOp, List.lookup, Nat.reduceBEq, Nat.reduceLeDiff, Nat.reduceAdd, if_false, if_true]
        repeat (go_big_quiet_step (fail))
        exact wpQuiet_nil rfl
      case hstep =>
        intro j hj o ho
        have hj2 : j = 0 ∨ j = 1 ∨ j = 2 := by simp at hj; omega
        rcases hj2 with rfl | rfl | rfl
        · cases ho
          refine ⟨rfl, fun g x hx hp => ?_⟩
          clear hp
          simp only [fillAll, Act.put, List.setIfInBounds_toArray, List.set_cons_zero, List.set_cons_succ]
          refine chain_go ?_ (Wild.free_fix (HD1.out x (HP.out.2 _ _ HP1.out hx)))
          first | (simp [go_sem, execOp]; done) | simp [go_sem, execOp, hcf]
        · cases ho
          refine ⟨rfl, fun g x hx hp => ?_⟩
          clear hp
          simp only [fillAll, Act.put, List.setIfInBounds_toArray, List.set_cons_zero, List.set_cons_succ]
          refine chain_go ?_ (Wild.free_fix (HD2.out x (HP.out.2 _ _ HP1.out hx)))
          first | (simp [go_sem, execOp]; done) | simp [go_sem, execOp, hcf]
        · cases ho
          refine ⟨rfl, fun g x hx hp => ?_⟩
          clear hp
          simp only [fillAll, Act.put, List.setIfInBounds_toArray, List.set_cons_zero, List.set_cons_succ]
          refine Wild.free_make (v := .slice (some ⟨x.heap.size, 0, none⟩) 1 1) (w' := x.alloc (.cells #[.int .i64 px, .int .i64 py] 45)) (by simp [go_sem, execOp]) ((AnyLater.refl x).alloc _) (OQ.rq (OQ.one (B := 0) (r := (px, py)) (Nat.zero_le _) (heap_new rfl)))
      case htail =>
        intro g u hst hne
        have b_w2 : AnyLater w1 (later u) := ⟨u, rfl⟩
        generalize later u = w2 at *
        clear u hne
        obtain ⟨p24_w2, -⟩ := hst _ (List.mem_of_getElem? (i := 0) rfl)
        (try dsimp only at p24_w2)
        clear hst
        simp only [fillAll, Act.put, List.setIfInBounds_toArray, List.set_cons_zero, List.set_cons_succ, List.drop_succ_cons, List.drop_zero, List.drop_nil]
        generalize g 10 = v24 at *
        have z_w2 := b_w2.below.size
        have a_w2 := a_w1.trans b_w2
        have s0_w2 := any_own b_w2 s0_w1
        have r0_w2 := own_row s0_w2
        have f0_w2 := own_free s0_w2
        have l0_w2 := own_lt s0_w2
        (try clear r0_w1); (try clear f0_w1)
        obtain ⟨A7, c7, rfl, -⟩ := p24_w2.form
        have ho2 := OQ.later (b_w1.trans b_w2) HR.out.2
        obtain ⟨u, w3, q1, q2, q3⟩ := appQ pairCaret ho2 p24_w2 (Nat.le_trans lw (b_w1.trans b_w2).below.size) (by rw [HKl.out]; simp; have := HL.out; omega)
        rw [show ([(px, py)] : Qs).length = 1 from rfl] at q1
        have K1 := Lib.hid q1
        have K2 := Lib.hid (And.intro (OQ.grown ho2 (Nat.le_refl _) a_w2 q3) q2)
        clear q1 q2 q3 ho2
        go_wp2_with (at_builtin; refine Lib.wpList_append_run _ rfl _ _ _ _ rfl _ _ rfl rfl _ _ K1.out ?_)
        go_roundg (n - (j + 1))
        case measure => omega
        case rel => exact ⟨j + 1, rfl, hlt, by go_num, K2.out.1, by rw [HE.out]; exact K2.out.2⟩
    · obtain rfl : j = n := by omega
      have HE : Hid (QR wr (.slice A4 ((l.take j).map (bothC fz)).length cap4) (l.map (bothC fz))) := Lib.hid (by
        have := OQ.rq HR.out.2
        rwa [List.take_of_length_le (Nat.le_of_eq HN.out)] at this ⊢)
      clear ho
      generalize ((l.take j).map (bothC fz)).length = t at *
      go_wp2_with fail
      refine (HTd.out _ _ HE.out).mono ?_
      rintro e w2 ⟨u, rfl, b2, o2⟩
      have HZ := Lib.hid (And.intro (a_wr.trans b2) (OQ.wide a_wr.below.size o2))
      clear b2 o2
      go_wp2_with fail
      go_ret
      exact ⟨_, rfl, HZ.out.1, HZ.out.2⟩
end Go.Proofs.YtkobnijjahpifaaDoor
