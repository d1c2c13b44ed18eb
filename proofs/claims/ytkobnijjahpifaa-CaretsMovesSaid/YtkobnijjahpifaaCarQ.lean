/- carets: Move of the program and of the document by contract. -/
import Derived.Test.YtkobnijjahpifaaCarP
import Derived.Test.YtkobnijjahpifaaCarM
import Derived.Test.YtkobnijjahpifaaMrkP
import Derived.Test.YtkobnijjahpifaaMake
namespace Go.Proofs.Ytkobnijjahpifaa
set_option linter.unusedSimpArgs false
set_option linter.unusedVariables false
set_option linter.unusedSectionVars false
open Go.RowKit

set_option maxRecDepth 100000 in
theorem moveclo_any (p a o i : Int) (bx : Nat) (w : World) (hb : w.heap[bx]? = some (.cells #[.int .i64 a, .int .i64 o, .int .i64 i] 42)) : Calls Try.prog 34 #[.int .i64 p, .pointer (some ⟨bx, 0, none⟩)] w fun e w' => e = .returned (.int .i64 (rightZ p a o i)) ∧ AnyLater w w' := by
  have HR := Lib.hid (fun w => mright_any p a o i w _ rfl)
  have r0 := own_row hb
  generalize rightZ p a o i = z at *
  go_enter Try.func34, Try.ntmps34
  go_wp2_with fail
  refine (HR.out _).mono ?_
  rintro e w1 ⟨rfl, b1⟩
  go_wp2_with fail
  go_ret
  exact ⟨rfl, b1⟩
theorem move_enters : ∀ args w, (callFunc 34 args).run Try.prog w = .ok (.enter 34 args) w := enters_of Try.func34 (by kernel_rfl) rfl
theorem move_any (v : Value) (l M : Qs) (a o i : Int) (w : World) (hM : movedC (fun p => rightZ p a o i) l = M) (hv : QR w v l) (hl : l.length ≤ 39) : Calls Try.prog 20 #[v, .agg #[.int .i64 a, .int .i64 o, .int .i64 i]] w (RowT w M) := by
  have h1 : AnyLater w (w.alloc (.cells #[.int .i64 a, .int .i64 o, .int .i64 i] 42)) := (AnyLater.refl w).alloc _
  have h3 : (w.alloc (.cells #[.int .i64 a, .int .i64 o, .int .i64 i] 42)).heap[w.heap.size]? = some (.cells #[.int .i64 a, .int .i64 o, .int .i64 i] 42) := heap_new rfl
  have HK := Lib.hid (moved_any v 34 #[] #[.pointer (some ⟨w.heap.size, 0, none⟩)] (fun p => rightZ p a o i) l M _ (fun x => x.heap[w.heap.size]? = some (.cells #[.int .i64 a, .int .i64 o, .int .i64 i] 42)) hM (hv.later h1) hl h3 (fun x y hx hxy => any_own hxy hx) move_enters (fun p w' hP => moveclo_any p a o i w.heap.size w' hP))
  have HB := Lib.hid h1
  obtain ⟨A, cap, rfl, h2⟩ := hv.form
  clear h1 h3 hM hv hl h2
  generalize l.length = m at *
  go_enter Try.func20, Try.ntmps20
  go_wp2_with fail
  refine HK.out.mono ?_
  rintro e w1 ⟨u, rfl, b1, o1⟩
  have HB1 := Lib.hid (And.intro (HB.out.trans b1) (OQ.wide HB.out.below.size o1))
  clear b1 o1
  go_wp2_with fail
  go_ret
  exact ⟨_, rfl, HB1.out.1, HB1.out.2⟩
set_option maxRecDepth 100000 in
set_option maxHeartbeats 3200000 in
theorem xmove_any (v : Value) (l M : Qs) (a o i : Int) (w : World) (hM : movedC (fun p => rightZ p a o i) l = M) (hv : QR w v l) (hl : l.length ≤ 39) : Calls Try.prog 21 #[v, .agg #[.int .i64 a, .int .i64 o, .int .i64 i]] w (RowT w M) := by
  obtain ⟨A, cap, rfl, h2, h3⟩ := hv
  have HCC : Hid (∀ (j : Nat) (h : j < l.length), ∃ b off, A = some ⟨b, off, none⟩ ∧ b < w.heap.size ∧ w.cell? ⟨b, off + j * 2, none⟩ = some (.int .i64 l[j].1) ∧ w.cell? ⟨b, off + j * 2 + 1, none⟩ = some (.int .i64 l[j].2)) := Lib.hid (fun j hj => by
    obtain ⟨b, off, e, hb, hc⟩ := h3 (by omega)
    exact ⟨b, off, e, hb, hc j hj⟩)
  obtain ⟨fz, hfz⟩ : ∃ fz : Int → Int, (fun p => rightZ p a o i) = fz := ⟨_, rfl⟩
  have HD := Lib.hid (fun (p : Int) (w' : World) => xright_any p a o i w' (fz p) (by rw [← hfz]))
  rw [hfz] at hM
  have HTd := Lib.hid (fun (w' : World) (u : Value) (h : QR w' u (l.map (bothC fz))) => xtidy_any u _ M w' hM h (by rw [List.length_map]; exact hl))
  have HMl : Hid (∀ j, ((l.take j).map (bothC fz)).length ≤ 39) := Lib.hid (fun j => by rw [List.length_map, List.length_take]; omega)
  obtain ⟨n, hn⟩ : ∃ n, l.length = n := ⟨_, rfl⟩
  have HN := Lib.hid hn
  rw [hn] at h2 hl ⊢
  have HA0 := Lib.hid ((AnyLater.refl w).alloc (.cells #[.int .i64 a, .int .i64 o, .int .i64 i] 42))
  have HE0 : Hid (OQ 29 ((w.alloc (.cells #[.int .i64 a, .int .i64 o, .int .i64 i] 42)).alloc (.cells #[] 29)) (w.heap.size + 1) (.slice (some ⟨w.heap.size + 1, 0, none⟩) 0 0) [] ∧ AnyLater (w.alloc (.cells #[.int .i64 a, .int .i64 o, .int .i64 i] 42)) ((w.alloc (.cells #[.int .i64 a, .int .i64 o, .int .i64 i] 42)).alloc (.cells #[] 29))) :=
    Lib.hid ⟨OQ.empty (Nat.le_refl _) (heap_new (by simp)), (AnyLater.refl _).alloc _⟩
  clear h3 hM hn hfz
  go_enter Try.func21, Try.ntmps21
  go_wp2_with fail
  go_loopg [5, 6] n (fun kk ov iv wr => ∃ j : Nat, kk = n - j ∧ j ≤ n ∧ iv = .int .i64 (j : Int) ∧ AnyLater (w.alloc (.cells #[.int .i64 a, .int .i64 o, .int .i64 i] 42)) wr ∧ OQ 29 wr (w.heap.size + 1) ov ((l.take j).map (bothC fz)))
  case atStart => exact ⟨0, by omega, by omega, rfl, HE0.out.2, HE0.out.1⟩
  case round =>
    obtain ⟨j, hk, hj, rfl, a_wr, ho⟩ := hrel
    have HR := Lib.hid (And.intro a_wr ho)
    obtain ⟨A4, cap4, rfl, -⟩ := ho.form
    by_cases hlt : j < n
    · have lj : j < l.length := by rw [HN.out]; exact hlt
      have i0 : (j : Int) < (n : Int) := by omega
      obtain ⟨b, off, rfl, hb, k0, k1⟩ := HCC.out j lj
      have c0 : wr.cell? ⟨b, off + j * 2, none⟩ = some (.int .i64 l[j].1) := ((HA0.out.trans a_wr).below.cell hb).trans k0
      have c1 : wr.cell? ⟨b, off + j * 2 + 1, none⟩ = some (.int .i64 l[j].2) := ((HA0.out.trans a_wr).below.cell hb).trans k1
      obtain ⟨d0, d1, d2⟩ := box_three a_wr
      have HT := Lib.hid (map_take (f := fz) lj)
      have lw : w.heap.size + 1 ≤ wr.heap.size := by have := a_wr.below.size; rw [World.size_alloc] at this; omega
      clear k0 k1
      obtain ⟨c, hc⟩ : ∃ c, l[j] = c := ⟨_, rfl⟩
      rw [hc] at c0 c1 HT
      clear hc
      obtain ⟨f, t⟩ := c
      simp only at c0 c1
      obtain ⟨px, hpx⟩ : ∃ px, fz f = px := ⟨_, rfl⟩
      obtain ⟨py, hpy⟩ : ∃ py, fz t = py := ⟨_, rfl⟩
      have HE : Hid ((l.take (j + 1)).map (bothC fz) = (l.take j).map (bothC fz) ++ [(px, py)]) := Lib.hid (by rw [HT.out]; unfold bothC; rw [hpx, hpy])
      have HD1 := Lib.hid (HD.out f)
      have HD2 := Lib.hid (HD.out t)
      rw [hpx] at HD1
      rw [hpy] at HD2
      have HL := Lib.hid (HMl.out j)
      clear hpx hpy HT ho
      generalize (l.take j).map (bothC fz) = K at *
      generalize hkl : K.length = m at *
      have HKl := Lib.hid hkl
      clear hkl
      go_wp2_with fail
      apply Wild.wp_region_free (17) [⟨7, 21, .int .i64 px, false, fun v _ => v = .int .i64 px⟩, ⟨14, 28, .int .i64 py, false, fun v _ => v = .int .i64 py⟩, ⟨16, 30, undef, true, fun u w => QR w u [(px, py)]⟩] [⟨16, 30, fun u w => QR w u [(px, py)]⟩] rfl (by kernel_rfl) (by kernel_rfl) (by kernel_rfl) (by simp) (by kernel_rfl)
      case hstab =>
        intro c hc
        simp only [List.mem_cons, List.not_mem_nil, or_false] at hc
        rcases hc with rfl | rfl | rfl
        · intro v x y hxy hv; exact hv
        · intro v x y hxy hv; exact hv
        · intro v x y hxy hv; exact (fun h k => QR.later k h) hxy hv
      case hfix =>
        intro c hc
        simp only [List.mem_cons, List.not_mem_nil, or_false] at hc
        rcases hc with rfl | rfl | rfl
        · exact .inr fun u x h => h
        · exact .inr fun u x h => h
        · exact .inl rfl
      case hlex =>
        intro U hU
        have q_c0 := cell_on hU c0
        have q_c1 := cell_on hU c1
        have q_d0 := cell_on hU d0
        have q_d1 := cell_on hU d1
        have q_d2 := cell_on hU d2
        simp only [List.map_cons, List.map_nil, CA.act, actFrom, actOp, List.lookup, Nat.reduceBEq, Nat.reduceLeDiff, Nat.reduceAdd, if_false, if_true]
        repeat (go_big_quiet_step (fail))
        exact wpQuiet_nil rfl
      case hstep =>
        intro j hj o ho
        have hj2 : j = 0 ∨ j = 1 ∨ j = 2 := by simp at hj; omega
        rcases hj2 with rfl | rfl | rfl
        · cases ho
          refine ⟨rfl, fun g x hx hp => ?_⟩
          clear hp
          simp only [fillAll, Act.put, List.setIfInBounds_toArray, List.set_cons_zero, List.set_cons_succ]
          refine chain_go ?_ (Wild.free_fix (HD1.out x))
          first | (simp [go_sem, execOp]; done) | simp [go_sem, execOp, hcf]
        · cases ho
          refine ⟨rfl, fun g x hx hp => ?_⟩
          clear hp
          simp only [fillAll, Act.put, List.setIfInBounds_toArray, List.set_cons_zero, List.set_cons_succ]
          refine chain_go ?_ (Wild.free_fix (HD2.out x))
          first | (simp [go_sem, execOp]; done) | simp [go_sem, execOp, hcf]
        · cases ho
          refine ⟨rfl, fun g x hx hp => ?_⟩
          clear hp
          simp only [fillAll, Act.put, List.setIfInBounds_toArray, List.set_cons_zero, List.set_cons_succ]
          refine Wild.free_make (v := .slice (some ⟨x.heap.size, 0, none⟩) 1 1) (w' := x.alloc (.cells #[.int .i64 px, .int .i64 py] 29)) (by simp [go_sem, execOp]) ((AnyLater.refl x).alloc _) (OQ.rq (OQ.one (B := 0) (r := (px, py)) (Nat.zero_le _) (heap_new rfl)))
      case htail =>
        intro g u hst hne
        have b_w2 : AnyLater wr (later u) := ⟨u, rfl⟩
        generalize later u = w2 at *
        clear u hne
        obtain ⟨p30_w2, -⟩ := hst _ (List.mem_of_getElem? (i := 0) rfl)
        (try dsimp only at p30_w2)
        clear hst
        simp only [fillAll, Act.put, List.setIfInBounds_toArray, List.set_cons_zero, List.set_cons_succ, List.drop_succ_cons, List.drop_zero, List.drop_nil]
        generalize g 16 = v30 at *
        have z_w2 := b_w2.below.size
        have a_w2 := a_wr.trans b_w2
        have c0_w2 := cell_on b_w2 c0
        have c1_w2 := cell_on b_w2 c1
        have d0_w2 := cell_on b_w2 d0
        have d1_w2 := cell_on b_w2 d1
        have d2_w2 := cell_on b_w2 d2
        obtain ⟨A7, c7, rfl, -⟩ := p30_w2.form
        have ho2 := OQ.later b_w2 HR.out.2
        obtain ⟨u, w3, q1, q2, q3⟩ := appQ pairCaret ho2 p30_w2 (Nat.le_trans lw b_w2.below.size) (by rw [HKl.out]; simp; have := HL.out; omega)
        rw [show ([(px, py)] : Qs).length = 1 from rfl] at q1
        have K1 := Lib.hid q1
        have K2 := Lib.hid (And.intro (OQ.grown ho2 (by rw [World.size_alloc]; omega) a_w2 q3) q2)
        clear q1 q2 q3 ho2
        go_wp2_with (at_builtin; refine Lib.wpList_append_run _ rfl _ _ _ _ rfl _ _ rfl rfl _ _ K1.out ?_)
        go_roundg (n - (j + 1))
        case measure => omega
        case rel => exact ⟨j + 1, rfl, hlt, by go_num, K2.out.1, by rw [HE.out]; exact K2.out.2⟩
    · obtain rfl : j = n := by omega
      have d9 : decide ((j : Int) < (j : Int)) = false := by simp
      have HE : Hid (QR wr (.slice A4 ((l.take j).map (bothC fz)).length cap4) (l.map (bothC fz))) := Lib.hid (by
        have := OQ.rq HR.out.2
        rwa [List.take_of_length_le (Nat.le_of_eq HN.out)] at this ⊢)
      clear ho
      generalize ((l.take j).map (bothC fz)).length = t at *
      go_wp2_with fail
      refine (HTd.out _ _ HE.out).mono ?_
      rintro e w2 ⟨u, rfl, b2, o2⟩
      have HZ := Lib.hid (And.intro (HA0.out.trans (a_wr.trans b2)) (OQ.wide (HA0.out.trans a_wr).below.size o2))
      clear b2 o2
      go_wp2_with fail
      go_ret
      exact ⟨_, rfl, HZ.out.1, HZ.out.2⟩
end Go.Proofs.Ytkobnijjahpifaa
