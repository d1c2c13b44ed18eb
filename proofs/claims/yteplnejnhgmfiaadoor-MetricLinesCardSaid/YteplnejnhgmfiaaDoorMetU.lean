/- metric: MetricLines. -/
import Derived.Test.YteplnejnhgmfiaaDoorMetR
import Derived.Test.YteplnejnhgmfiaaDoorMetQ
import Derived.Test.YteplnejnhgmfiaaDoorMakeW
namespace Go.Proofs.YteplnejnhgmfiaaDoor
set_option linter.unusedSimpArgs false
set_option linter.unusedVariables false
set_option linter.unusedSectionVars false
open Go.RowKit

/-- append(u, v...), u empty and not nil -/
theorem copyE8 {w : World} {u v : Value} {l : List Int} (hu : isE u w) (hr : RU8 w v l) (hl : l.length ≤ 90000) :
    ∃ v' w', (Builtin.append_ #[22, 22] 22 #[u, v]).run Tryd.prog w = .ok v' w' ∧ AnyLater w w' ∧ RU8 w' v' l := by
  obtain ⟨i0, hi0, hz0, hz1, hz2⟩ := info_parts info_u8
  obtain ⟨ad, rfl⟩ := hu
  obtain ⟨A, cap, rfl, h2, h3⟩ := hr
  by_cases h0 : 0 < l.length
  · obtain ⟨b, off, rfl, hb, hc⟩ := h3 h0
    have hnews : ∀ j x, (l.map (Value.int .u8))[j]? = some x → w.cell? ((⟨b, off, none⟩ : Addr).add j) = some x := by
      intro j x hx
      have hj : j < l.length := by
        rcases Nat.lt_or_ge j l.length with h | h
        · exact h
        · rw [List.getElem?_eq_none (by simpa using h)] at hx; cases hx
      rw [addr_add, hc j hj, ← hx]
      simp [hj]
    obtain ⟨v', w', k1, k2, k3⟩ := run_append_arg_grows (P := Tryd.prog) w 22 22 5 i0 (.int .u8 0) 1 1 Tryd.underlying22 hi0 hz0 hz1 hz2 rfl (by decide) ad 0 0 [] rfl (fun j u hj => by simp at hj) ⟨b, off, none⟩ l.length cap (l.map (Value.int .u8)) (by simp) hnews (by omega) (by unfold maxLen; omega) (by omega)
    refine ⟨v', w', k1, .grown k3, ON.rn (t := 5) (B := w.heap.size) ?_⟩
    simpa using k2
  · obtain rfl := List.eq_nil_of_length_eq_zero (Nat.eq_zero_of_not_pos h0)
    cases A with
    | none =>
      have hsrc := Src.ofNil (P := Tryd.prog) w (size := i0.size) Tryd.underlying22 cap
      exact ⟨_, _, run_append_nothing (P := Tryd.prog) w 22 22 22 5 i0 Tryd.underlying22 hi0 (some ad) 0 0 (Nat.le_refl _) _ hsrc, .refl _, ⟨some ad, 0, rfl, Nat.le_refl _, fun h => absurd h (by simp)⟩⟩
    | some a2 =>
      refine ⟨.slice (some ad) 0 0, w, ?_, .refl _, ⟨some ad, 0, rfl, Nat.le_refl _, fun h => absurd h (by simp)⟩⟩
      exact run_append_nothing (P := Tryd.prog) w 22 22 22 5 i0 Tryd.underlying22 hi0 (some ad) 0 0 (Nat.le_refl _) _ (Src.ofSlice (P := Tryd.prog) w (size := i0.size) Tryd.underlying22 a2 0 cap [] (by simp) (fun j x hx => by simp at hx) (fun u hu => by cases hu))
set_option maxRecDepth 100000 in
set_option maxHeartbeats 3200000 in
theorem metricLines_any (w : World) (v0 v1 : Value) (z0 : List Int) (z1 : Runs) (f y : Int) (hb : RU8 w v0 z0) (hby : Bytes z0) (hv : RRn w v1 z1) (hN : NumsR z1) (hf : I64s f) (hy : I64s y) (hg : GlobU w) :
    Calls Tryd.prog 3 #[v0, v1, .agg #[.int .i64 f, .int .i64 y]] w fun e w' => e = .returned (.bool true) ∧ AnyLater w w' := by
  have HF8 := Lib.hid (fun w1 (a : AnyLater w w1) => few8_any v0 z0 60 w1 (hb.later a) (by omega))
  have HF0 := Lib.hid (fun w1 (a : AnyLater w w1) => cruns_any v1 z1 w1 (hv.later a))
  obtain ⟨l, hl⟩ : ∃ l, z0.take 60 = l := ⟨_, rfl⟩
  obtain ⟨m, hm⟩ : ∃ m, z1.take 40 = m := ⟨_, rfl⟩
  rw [hl] at HF8
  rw [hm] at HF0
  have hll : l.length ≤ 60 := by rw [← hl, List.length_take]; omega
  have hlb : Bytes l := by rw [← hl]; exact hby.take 60
  have hml : m.length ≤ 40 := by rw [← hm, List.length_take]; omega
  have hmN : NumsR m := by rw [← hm]; exact hN.take 40
  have HF : Hid (∀ w u, RRn w u m → Calls Tryd.prog 8 #[u] w fun e w' => ∃ v, e = .returned v ∧ AnyLater w w' ∧ RRn w' v m) := Lib.hid (fun w u h => by
    have := cruns_any u m w h
    rw [List.take_of_length_le hml] at this
    exact this.mono fun _ _ ⟨x, q1, q2, q3⟩ => ⟨x, q1, q2, q3.reads⟩)
  obtain ⟨sm, hsm⟩ : ∃ sm, smallR m = sm := ⟨_, rfl⟩
  have HSm := Lib.hid (fun w u (h : RRn w u m) => small_any u m w sm hsm h hmN (by omega))
  have HLv := Lib.hid (fun w1 (a : AnyLater w w1) => mlives_any w1 (hg.later a))
  obtain ⟨c, hc, hcl⟩ := cnt_ex hlb
  have h4 : sm = true → (stylesR m).length ≤ 4000 := fun h => by
    rw [h] at hsm
    unfold smallR at hsm
    rw [Bool.and_eq_true, decide_eq_true_eq] at hsm
    exact hsm.1
  obtain ⟨CL, hCL⟩ : ∃ CL, celsU l (stA (stylesR m) f) c = CL := ⟨_, rfl⟩
  have hCLl : CL.length = c := by rw [← hCL, celsU_length]
  obtain ⟨LL, hLL⟩ : ∃ LL, linesL CL y = LL := ⟨_, rfl⟩
  have hLf := linesL_few CL y
  rw [hLL] at hLf
  have HLi : Hid (sm = true → ∀ w1 u v, AnyLater w w1 → RU8 w1 u l → RRn w1 v m → Calls Tryd.prog 11 #[u, v, .int .i64 f, .int .i64 y] w1 fun e w' => ∃ u, e = .returned u ∧ AnyLater w1 w' ∧ LR w' u LL) := Lib.hid (fun h w1 u v a hu hv => by
    have := mline_any u v l m f y c w1 hu hlb (by omega) (hg.later a) hc hv hmN (by omega) hf hy
    rw [celsU_congr hc (fun p hp => stA_part (Nat.le_trans (h4 h) (by decide)) f hp), hCL, hLL] at this
    exact this.mono fun _ _ ⟨x, q1, q2, q3⟩ => ⟨x, q1, q2, q3.lr⟩)
  have HSt : Hid (sm = true → ∀ w u, RRn w u m → Calls Tryd.prog 14 #[u] w fun e w' => ∃ v, e = .returned v ∧ AnyLater w w' ∧ RI w' v (stylesR m)) := Lib.hid (fun h w u hu =>
    (styles_any u m w hu hmN (by omega) (h4 h)).mono fun _ _ ⟨x, q1, q2, q3⟩ => ⟨x, q1, q2, ON.rn q3⟩)
  have HXo : Hid (sm = true → ∀ w u v, RU8 w u l → RI w v (stylesR m) → Calls Tryd.prog 13 #[u, v, .int .i64 f, .int .i64 y] w fun e w' => ∃ u, e = .returned u ∧ AnyLater w w' ∧ LR w' u LL) := Lib.hid (fun h w u v hu hv => by
    have := xline_any u v l (stylesR m) f y c w hu hlb (by omega) hc hv (by have := h4 h; omega) (fun s hs => goodS_i64 (stylesR_good hs)) hf hy
    rw [hCL, hLL] at this
    exact this)
  have HSa := Lib.hid (fun w u v (h : LR w u LL) (k : LR w v LL) => lsame_yes u v LL w h k (by omega) (fun r hr => by have := hLf.2 r hr; omega))
  obtain ⟨A0, p0, rfl, -⟩ := hb.form
  obtain ⟨A1, p1, rfl, -, -⟩ := hv
  generalize z0.length = n0 at *
  generalize z1.length = n1 at *
  obtain ⟨L, hL⟩ : ∃ L, l.length = L := ⟨_, rfl⟩
  have HL := Lib.hid hL
  have HLL : Hid (l.length ≤ 60) := Lib.hid hll
  obtain ⟨f1, f2⟩ := hf
  obtain ⟨y1, y2⟩ := hy
  clear hb hby hN hg hl hm hll hlb hml hmN hc hcl h4 hCL hCLl hsm hL hLL hLf
  go_enter Tryd.func3, Tryd.ntmps3
  go_upto_region 1 with fail
  first | refine settle_wp (fun wS => AnyLater w wS ∧ wS.heap[w.heap.size]? = some (.cells #[.int .i64 f, .int .i64 y] 24)) ?_ ?_ | refine settle_calls (fun wS => AnyLater w wS ∧ wS.heap[w.heap.size]? = some (.cells #[.int .i64 f, .int .i64 y] 24)) ?_ ?_
  · refine ⟨?_, ?_⟩
    · repeat' (first | with_reducible assumption | with_reducible exact AnyLater.refl _ | with_reducible apply AnyLater.setCell | with_reducible apply AnyLater.later | with_reducible apply AnyLater.drewN | with_reducible apply AnyLater.drew | with_reducible apply AnyLater.alloc | ((try simp only [World.size_alloc, World.size_setCell, World.size_drew]); (try dsimp only); omega))
    · ((repeat (first | with_reducible assumption | ((with_reducible apply heap_new); (try simp only [World.size_alloc, World.size_setCell, World.size_drew, World.heap_drewN]); done) | ((with_reducible apply heap_new); (try simp only [World.size_alloc, World.size_setCell, World.size_drew, World.heap_drewN]); omega) | (with_reducible refine heap_old (by (try simp only [World.size_alloc, World.size_setCell, World.size_drew, World.heap_drewN]); omega) ?_) | (with_reducible refine heap_drew ?_) | (with_reducible refine heap_far (by omega) ?_) | (with_reducible apply heap_at))); all_goals rfl)
  rintro w0 ⟨b_w0, s0_w0⟩
  have a_w0 := b_w0
  have r0_w0 := own_row s0_w0
  have f0_w0 := own_free s0_w0
  have l0_w0 := own_lt s0_w0
  have z_w0 := b_w0.below.size
  go_wp2_with fail
  refine (HF8.out _ a_w0).mono ?_
  rintro e w1 ⟨u1, rfl, b_w1, o1⟩
  have z_w1 := b_w1.below.size
  have a_w1 := a_w0.trans b_w1
  have s0_w1 := any_own b_w1 s0_w0
  have r0_w1 := own_row s0_w1
  have f0_w1 := own_free s0_w1
  have l0_w1 := own_lt s0_w1
  (try clear r0_w0); (try clear f0_w0)
  have H1 := Lib.hid (And.intro a_w1 o1.rn)
  obtain ⟨A2, p2, rfl, -⟩ := o1.form
  rw [HL.out] at H1 ⊢
  clear b_w1 o1
  go_wp2_with fail
  refine (HF0.out _ H1.out.1).mono ?_
  rintro e w2 ⟨u2, rfl, b_w2, o2⟩
  have z_w2 := b_w2.below.size
  have a_w2 := a_w1.trans b_w2
  have s0_w2 := any_own b_w2 s0_w1
  have r0_w2 := own_row s0_w2
  have f0_w2 := own_free s0_w2
  have l0_w2 := own_lt s0_w2
  (try clear r0_w1); (try clear f0_w1)
  have H2 := Lib.hid (And.intro a_w2 (And.intro (H1.out.2.later b_w2) o2.reads))
  clear b_w2 o2 H1
  go_wp2_with fail
  refine (HSm.out _ _ H2.out.2.2).mono ?_
  rintro e w3 ⟨rfl, b_w3⟩
  have z_w3 := b_w3.below.size
  have a_w3 := a_w2.trans b_w3
  have s0_w3 := any_own b_w3 s0_w2
  have r0_w3 := own_row s0_w3
  have f0_w3 := own_free s0_w3
  have l0_w3 := own_lt s0_w3
  (try clear r0_w2); (try clear f0_w2)
  have H3 := Lib.hid (And.intro a_w3 (And.intro (H2.out.2.1.later b_w3) (H2.out.2.2.later b_w3)))
  clear b_w3 H2
  cases sm with
  | false =>
    go_wp2_with fail
    refine (HLv.out _ H3.out.1).mono ?_
    rintro e w4 ⟨rfl, b4⟩
    have H4 := Lib.hid (H3.out.1.trans b4)
    clear b4
    go_wp2_with fail
    go_ret
    exact ⟨rfl, H4.out⟩
  | true =>
    have HLi2 : Hid (∀ w1 u v, AnyLater w w1 → RU8 w1 u l → RRn w1 v m → Calls Tryd.prog 11 #[u, v, .int .i64 f, .int .i64 y] w1 fun e w' => ∃ u, e = .returned u ∧ AnyLater w1 w' ∧ LR w' u LL) := Lib.hid (HLi.out rfl)
    have HSt2 : Hid (∀ w u, RRn w u m → Calls Tryd.prog 14 #[u] w fun e w' => ∃ v, e = .returned v ∧ AnyLater w w' ∧ RI w' v (stylesR m)) := Lib.hid (HSt.out rfl)
    have HXo2 : Hid (∀ w u v, RU8 w u l → RI w v (stylesR m) → Calls Tryd.prog 13 #[u, v, .int .i64 f, .int .i64 y] w fun e w' => ∃ u, e = .returned u ∧ AnyLater w w' ∧ LR w' u LL) := Lib.hid (HXo.out rfl)
    clear HLi HSt HXo
    have hl9 : Hid (l.length ≤ 90000) := Lib.hid (by have := HLL.out; omega)
    go_wp2_with fail
    apply Wild.wp_region_free (10) [⟨0, 16, undef, true, isE⟩, ⟨2, 18, undef, true, fun u w => RU8 w u l⟩, ⟨4, 20, undef, true, fun u w => RRn w u m⟩, ⟨9, 25, undef, true, fun u w => LR w u LL⟩] [⟨0, 16, isE⟩, ⟨2, 18, fun u w => RU8 w u l⟩, ⟨4, 20, fun u w => RRn w u m⟩, ⟨9, 25, fun u w => LR w u LL⟩] rfl (by kernel_rfl) (by kernel_rfl) (by kernel_rfl) (by simp) (by kernel_rfl)
    case hstab =>
      intro c hc
      simp only [List.mem_cons, List.not_mem_nil, or_false] at hc
      rcases hc with rfl | rfl | rfl | rfl
      · intro v x y hxy hv; exact isE.stays hxy hv
      · intro v x y hxy hv; exact (fun h k => RN.later k h) hxy hv
      · intro v x y hxy hv; exact (fun h k => RRn.later k h) hxy hv
      · intro v x y hxy hv; exact (fun h k => LR.later k h) hxy hv
    case hfix =>
      intro c hc
      simp only [List.mem_cons, List.not_mem_nil, or_false] at hc
      rcases hc with rfl | rfl | rfl | rfl
      · exact .inl rfl
      · exact .inl rfl
      · exact .inl rfl
      · exact .inl rfl
    case hlex =>
      intro U hU
      have q0 := own_row (any_own hU s0_w3)
      simp only [List.map_cons, List.map_nil, CA.act, actFrom, actOp, List.lookup, Nat.reduceBEq, Nat.reduceLeDiff, Nat.reduceAdd, if_false, if_true]
      repeat (go_big_quiet_step (fail))
      exact wpQuiet_nil rfl
    case hstep =>
      intro j hj o ho
      have hj2 : j = 0 ∨ j = 1 ∨ j = 2 ∨ j = 3 := by simp at hj; omega
      rcases hj2 with rfl | rfl | rfl | rfl
      · cases ho
        refine ⟨rfl, fun g x hx hp => ?_⟩
        clear hp
        simp only [fillAll, Act.put, List.setIfInBounds_toArray, List.set_cons_zero, List.set_cons_succ]
        refine Wild.free_make (v := .slice (some ⟨x.heap.size, 0, none⟩) 0 0) (w' := x.alloc (.cells #[] 5)) (by simp [go_sem, execOp]) ((AnyLater.refl x).alloc _) ⟨_, rfl⟩
      · cases ho
        refine ⟨rfl, fun g x hx hp => ?_⟩
        have p16 : (isE) (g 0) x := hp _ (List.mem_of_getElem? (i := 0) rfl) (List.contains_iff_mem.1 (by kernel_rfl))
        clear hp
        simp only [fillAll, Act.put, List.setIfInBounds_toArray, List.set_cons_zero, List.set_cons_succ]
        (obtain ⟨v', w', q1, q2, q3⟩ := copyE8 p16 (H3.out.2.1.later hx) hl9.out; exact Wild.free_app _ _ _ _ rfl _ _ rfl rfl q1 q2 q3)
      · cases ho
        refine ⟨rfl, fun g x hx hp => ?_⟩
        clear hp
        simp only [fillAll, Act.put, List.setIfInBounds_toArray, List.set_cons_zero, List.set_cons_succ]
        refine chain_go ?_ (Wild.free_tells (HF.out x _ (H3.out.2.2.later hx)))
        first | (simp [go_sem, execOp]; done) | simp [go_sem, execOp, hcf]
      · cases ho
        refine ⟨rfl, fun g x hx hp => ?_⟩
        have p18 : (fun u w => RU8 w u l) (g 2) x := hp _ (List.mem_of_getElem? (i := 1) rfl) (List.contains_iff_mem.1 (by kernel_rfl))
        have p20 : (fun u w => RRn w u m) (g 4) x := hp _ (List.mem_of_getElem? (i := 2) rfl) (List.contains_iff_mem.1 (by kernel_rfl))
        clear hp
        simp only [fillAll, Act.put, List.setIfInBounds_toArray, List.set_cons_zero, List.set_cons_succ]
        refine chain_go ?_ (Wild.free_tells (HLi2.out x _ _ (a_w3.trans hx) p18 p20))
        first | (simp [go_sem, execOp]; done) | simp [go_sem, execOp, hcf]
    case htail =>
      intro g u hst hne
      have b_w4 : AnyLater w3 (later u) := ⟨u, rfl⟩
      generalize later u = w4 at *
      clear u hne
      obtain ⟨p16_w4, -⟩ := hst _ (List.mem_of_getElem? (i := 0) rfl)
      (try dsimp only at p16_w4)
      obtain ⟨p18_w4, -⟩ := hst _ (List.mem_of_getElem? (i := 1) rfl)
      (try dsimp only at p18_w4)
      obtain ⟨p20_w4, -⟩ := hst _ (List.mem_of_getElem? (i := 2) rfl)
      (try dsimp only at p20_w4)
      obtain ⟨p25_w4, -⟩ := hst _ (List.mem_of_getElem? (i := 3) rfl)
      (try dsimp only at p25_w4)
      clear hst
      simp only [fillAll, Act.put, List.setIfInBounds_toArray, List.set_cons_zero, List.set_cons_succ, List.drop_succ_cons, List.drop_zero, List.drop_nil]
      generalize g 0 = v16 at *
      generalize g 2 = v18 at *
      generalize g 4 = v20 at *
      generalize g 9 = v25 at *
      have z_w4 := b_w4.below.size
      have a_w4 := a_w3.trans b_w4
      have s0_w4 := any_own b_w4 s0_w3
      have r0_w4 := own_row s0_w4
      have f0_w4 := own_free s0_w4
      have l0_w4 := own_lt s0_w4
      (try clear r0_w3); (try clear f0_w3)
      have HQ := Lib.hid (And.intro p25_w4 (And.intro (H3.out.2.1.later b_w4) (H3.out.2.2.later b_w4)))
      clear p16_w4 p18_w4 p20_w4 p25_w4 b_w4
      go_wp2_with fail
      apply Wild.wp_region_free (14) [⟨3, 29, undef, true, fun u w => RI w u (stylesR m)⟩, ⟨8, 34, undef, true, fun u w => LR w u LL⟩, ⟨9, 35, .bool true, false, fun v _ => v = .bool true⟩, ⟨11, 37, .bool true, false, fun v _ => v = .bool true⟩] [⟨3, 29, fun u w => RI w u (stylesR m)⟩, ⟨8, 34, fun u w => LR w u LL⟩] rfl (by kernel_rfl) (by kernel_rfl) (by kernel_rfl) (by simp) (by kernel_rfl)
      case hstab =>
        intro c hc
        simp only [List.mem_cons, List.not_mem_nil, or_false] at hc
        rcases hc with rfl | rfl | rfl | rfl
        · intro v x y hxy hv; exact (fun h k => RN.later k h) hxy hv
        · intro v x y hxy hv; exact (fun h k => LR.later k h) hxy hv
        · intro v x y hxy hv; exact hv
        · intro v x y hxy hv; exact hv
      case hfix =>
        intro c hc
        simp only [List.mem_cons, List.not_mem_nil, or_false] at hc
        rcases hc with rfl | rfl | rfl | rfl
        · exact .inl rfl
        · exact .inl rfl
        · exact .inr fun u x h => h
        · exact .inr fun u x h => h
      case hlex =>
        intro U hU
        have q0 := own_row (any_own hU s0_w4)
        simp only [List.map_cons, List.map_nil, CA.act, actFrom, actOp, List.lookup, Nat.reduceBEq, Nat.reduceLeDiff, Nat.reduceAdd, if_false, if_true]
        repeat (go_big_quiet_step (fail))
        exact wpQuiet_nil rfl
      case hstep =>
        intro j hj o ho
        have hj2 : j = 0 ∨ j = 1 ∨ j = 2 ∨ j = 3 := by simp at hj; omega
        rcases hj2 with rfl | rfl | rfl | rfl
        · cases ho
          refine ⟨rfl, fun g x hx hp => ?_⟩
          clear hp
          simp only [fillAll, Act.put, List.setIfInBounds_toArray, List.set_cons_zero, List.set_cons_succ]
          refine chain_go ?_ (Wild.free_tells (HSt2.out x _ (HQ.out.2.2.later hx)))
          first | (simp [go_sem, execOp]; done) | simp [go_sem, execOp, hcf]
        · cases ho
          refine ⟨rfl, fun g x hx hp => ?_⟩
          have p29 : (fun u w => RI w u (stylesR m)) (g 3) x := hp _ (List.mem_of_getElem? (i := 0) rfl) (List.contains_iff_mem.1 (by kernel_rfl))
          clear hp
          simp only [fillAll, Act.put, List.setIfInBounds_toArray, List.set_cons_zero, List.set_cons_succ]
          refine chain_go ?_ (Wild.free_tells (HXo2.out x _ _ (HQ.out.2.1.later hx) p29))
          first | (simp [go_sem, execOp]; done) | simp [go_sem, execOp, hcf]
        · cases ho
          refine ⟨rfl, fun g x hx hp => ?_⟩
          have p34 : (fun u w => LR w u LL) (g 8) x := hp _ (List.mem_of_getElem? (i := 1) rfl) (List.contains_iff_mem.1 (by kernel_rfl))
          clear hp
          simp only [fillAll, Act.put, List.setIfInBounds_toArray, List.set_cons_zero, List.set_cons_succ]
          refine chain_go ?_ (Wild.free_fix (HSa.out x _ _ (HQ.out.1.later hx) p34))
          first | (simp [go_sem, execOp]; done) | simp [go_sem, execOp, hcf]
        · cases ho
          refine ⟨rfl, fun g x hx hp => ?_⟩
          clear hp
          simp only [fillAll, Act.put, List.setIfInBounds_toArray, List.set_cons_zero, List.set_cons_succ]
          refine chain_go ?_ (Wild.free_fix (HLv.out x (a_w4.trans hx)))
          first | (simp [go_sem, execOp]; done) | simp [go_sem, execOp, hcf]
      case htail =>
        intro g u hst hne
        have b_w5 : AnyLater w4 (later u) := ⟨u, rfl⟩
        generalize later u = w5 at *
        clear u hne
        obtain ⟨p29_w5, -⟩ := hst _ (List.mem_of_getElem? (i := 0) rfl)
        (try dsimp only at p29_w5)
        obtain ⟨p34_w5, -⟩ := hst _ (List.mem_of_getElem? (i := 1) rfl)
        (try dsimp only at p34_w5)
        clear hst
        simp only [fillAll, Act.put, List.setIfInBounds_toArray, List.set_cons_zero, List.set_cons_succ, List.drop_succ_cons, List.drop_zero, List.drop_nil]
        generalize g 3 = v29 at *
        generalize g 8 = v34 at *
        have z_w5 := b_w5.below.size
        have a_w5 := a_w4.trans b_w5
        have s0_w5 := any_own b_w5 s0_w4
        have r0_w5 := own_row s0_w5
        have f0_w5 := own_free s0_w5
        have l0_w5 := own_lt s0_w5
        (try clear r0_w4); (try clear f0_w4)
        go_wp2_with fail
        go_ret
        exact ⟨rfl, a_w5⟩
end Go.Proofs.YteplnejnhgmfiaaDoor
