/- glyph: GlyphMakes: glyphs that are made bold, and large. -/
import Derived.Test.YtfliniknaonieaaGlyD
import Derived.Deep.CutBlock
import Derived.Deep.DeepCutAuto
namespace Go.Proofs.Ytfliniknaonieaa
set_option linter.unusedSimpArgs false
set_option linter.unusedVariables false
set_option linter.unusedSectionVars false
open Go.RowKit

theorem tdiv_two {x : Int} (h : 0 ≤ x) : x.tdiv 2 = x / 2 := Int.tdiv_eq_ediv_of_nonneg h
set_option maxRecDepth 100000 in
set_option maxHeartbeats 6400000 in
theorem glyphMakes_any (G : GSays) (g : GM) (v : Value) (w : World) (hv : IsG g v w) (hok : g.Ok) (px py : Int) (hx : I64 px) (hy : I64 py) :
    Calls Try.prog 8 #[v, .int .i64 px, .int .i64 py] w fun e w' => e = .returned (.bool true) ∧ AnyLater w w' := by
  have HG := Lib.hid G
  have HV := Lib.hid hv
  obtain ⟨A0, n0, cap0, rfl, -⟩ := hv.form
  have hkk := few_few g
  have hkl := few_len g
  have hko := few_ok hok
  have HF := Lib.hid (fun w' (ha : AnyLater w w') => few_any g _ w' (HV.out.later ha))
  clear G hv hok
  generalize g.w = W0 at *
  generalize g.h = H0 at *
  go_enter Try.func8, Try.ntmps8
  go_wp2_with fail
  first | refine settle_wp (fun wS => AnyLater w wS ∧ wS.heap[w.heap.size]? = some (.cells #[.int .i64 W0, .int .i64 H0, .slice A0 n0 cap0] 51)) ?_ ?_ | refine settle_calls (fun wS => AnyLater w wS ∧ wS.heap[w.heap.size]? = some (.cells #[.int .i64 W0, .int .i64 H0, .slice A0 n0 cap0] 51)) ?_ ?_
  · refine ⟨?_, ?_⟩
    · repeat' (first | with_reducible assumption | with_reducible exact AnyLater.refl _ | with_reducible apply AnyLater.setCell | with_reducible apply AnyLater.later | with_reducible apply AnyLater.drewN | with_reducible apply AnyLater.drew | with_reducible apply AnyLater.alloc | ((try simp only [World.size_alloc, World.size_setCell, World.size_drew]); (try dsimp only); omega))
    · ((repeat (first | with_reducible assumption | ((with_reducible apply heap_new); (try simp only [World.size_alloc, World.size_setCell, World.size_drew, World.heap_drewN]); done) | ((with_reducible apply heap_new); (try simp only [World.size_alloc, World.size_setCell, World.size_drew, World.heap_drewN]); omega) | (with_reducible refine heap_old (by (try simp only [World.size_alloc, World.size_setCell, World.size_drew, World.heap_drewN]); omega) ?_) | (with_reducible refine heap_drew ?_) | (with_reducible refine heap_far (by omega) ?_) | (with_reducible apply heap_at))); all_goals rfl)
  rintro w1 ⟨b_w1, s0_w1⟩
  have a_w1 := b_w1
  have r0_w1 := own_row s0_w1
  have f0_w1 := own_free s0_w1
  have l0_w1 := own_lt s0_w1
  have z_w1 := b_w1.below.size
  refine (HF.out w1 a_w1).mono ?_
  rintro e w2 ⟨u, rfl, b2, hf⟩
  have s2_w2 := any_own b2 s0_w1
  have r2_w2 := own_row s2_w2
  have f2_w2 := own_free s2_w2
  have l2_w2 := own_lt s2_w2
  have a_w2 := a_w1.trans b2
  clear s0_w1 r0_w1 f0_w1 l0_w1 b2 b_w1 z_w1 a_w1 HF HV
  generalize few g = k at *
  have HK := Lib.hid hf
  obtain ⟨A, n, cap, rfl, hn⟩ := hf.form
  clear hf
  have HN := Lib.hid hn
  have HKO := Lib.hid hko
  have HKL := Lib.hid hkl
  have HX := Lib.hid hx
  have HY := Lib.hid hy
  have HLv := Lib.hid (fun w' => glives_any HG.out w')
  obtain ⟨gd, hgd⟩ : ∃ c, goodG k = c := ⟨_, rfl⟩
  have HGD := Lib.hid hgd
  obtain ⟨⟨w1', w2'⟩, ⟨h1', h2'⟩, _⟩ := hko
  have HKK := Lib.hid hkk
  clear hgd hkk hkl hn
  go_wp2_with fail
  refine settle_wp (fun wS => AnyLater w wS ∧ Keeps (fun b => b = w.heap.size) w2 wS ∧ wS.heap[w.heap.size]? = some (.cells #[.int .i64 k.w, .int .i64 k.h, .slice A n cap] 51)) ⟨?_, ?_, ?_⟩ ?_
  · repeat' (first | with_reducible assumption | with_reducible exact AnyLater.refl _ | with_reducible apply AnyLater.setCell | with_reducible apply AnyLater.later | with_reducible apply AnyLater.drewN | with_reducible apply AnyLater.drew | with_reducible apply AnyLater.alloc | ((try simp only [World.size_alloc, World.size_setCell, World.size_drew]); (try dsimp only); omega))
  · refine Keeps.setCell (Keeps.setCell (Keeps.setCell (Keeps.refl _ _) ?_ _) ?_ _) ?_ _ <;> rfl
  · exact heap_at (heap_at (heap_at s2_w2 rfl) rfl) rfl
  rintro w3 ⟨a_w3, k3, s0_w3⟩
  have HK3 := Lib.hid (HK.out.keeps k3 (fun b hb => by subst hb; exact box_no32 s2_w2))
  have HFc : Hid (∀ w', AnyLater w3 w' → Shows 21 #[.agg #[.int .i64 k.w, .int .i64 k.h, .slice A n cap]] w' (IsG k)) := Lib.hid (fun w' ha => by
    have := few_any k _ w' (HK3.out.later ha)
    rw [HKK.out] at this
    exact this)
  have r0_w3 := own_row s0_w3
  have f0_w3 := own_free s0_w3
  have l0_w3 := own_lt s0_w3
  have z_w3 := Nat.le_refl w3.heap.size
  clear s2_w2 r2_w2 f2_w2 l2_w2 k3 a_w2
  apply wp_region_free (8) [⟨1, 12, undef, true, IsG k⟩, ⟨2, 13, undef, true, IsP (BoldP k)⟩, ⟨4, 15, undef, true, IsG k⟩, ⟨5, 16, undef, true, IsP (LargeP k)⟩, ⟨6, 7, undef, true, isVar (.cells #[.int .i64 0, .int .i64 0, .slice none 0 0] 51)⟩, ⟨7, 8, undef, true, isVar (.cells #[.int .i64 0, .int .i64 0, .slice none 0 0] 51)⟩] [⟨1, 12, IsG k⟩, ⟨2, 13, IsP (BoldP k)⟩, ⟨4, 15, IsG k⟩, ⟨5, 16, IsP (LargeP k)⟩, ⟨6, 7, isVar (.cells #[.int .i64 0, .int .i64 0, .slice none 0 0] 51)⟩, ⟨7, 8, isVar (.cells #[.int .i64 0, .int .i64 0, .slice none 0 0] 51)⟩] rfl (by kernel_rfl) (by kernel_rfl) (by kernel_rfl) (by simp) (by kernel_rfl)
  case hstab =>
    intro c hc
    simp only [List.mem_cons, List.not_mem_nil, or_false] at hc
    rcases hc with rfl | rfl | rfl | rfl | rfl | rfl
    · intro v x y hxy hv; exact IsG.later hxy hv
    · intro v x y hxy hv; exact IsP.later hxy hv
    · intro v x y hxy hv; exact IsG.later hxy hv
    · intro v x y hxy hv; exact IsP.later hxy hv
    · intro v x y hxy hv; exact isVar_stays hxy hv
    · intro v x y hxy hv; exact isVar_stays hxy hv
  case hfix =>
    intro c hc
    simp only [List.mem_cons, List.not_mem_nil, or_false] at hc
    rcases hc with rfl | rfl | rfl | rfl | rfl | rfl
    · exact .inl rfl
    · exact .inl rfl
    · exact .inl rfl
    · exact .inl rfl
    · exact .inl rfl
    · exact .inl rfl
  case hlex =>
    intro U hU
    have q0 := own_row (any_own hU s0_w3)
    simp only [List.map_cons, List.map_nil, CA.act, actFrom, actOp, List.lookup, Nat.reduceBEq, Nat.reduceLeDiff, Nat.reduceAdd, if_false, if_true]
    repeat (go_big_quiet_step (first | fail))
    exact wpQuiet_nil rfl
  case hstep =>
    intro j hj o ho
    have hj2 : j = 0 ∨ j = 1 ∨ j = 2 ∨ j = 3 ∨ j = 4 ∨ j = 5 := by simp at hj; omega
    rcases hj2 with rfl | rfl | rfl | rfl | rfl | rfl
    · cases ho
      refine ⟨rfl, fun g x hx hp => ?_⟩
      clear hp
      simp only [fillAll, Act.put, List.setIfInBounds_toArray, List.set_cons_zero, List.set_cons_succ]
      refine chain_go ?_ (free_tells IsG.nob (HFc.out x hx))
      simp [go_sem, execOp]
    · cases ho
      refine ⟨rfl, fun g x hx hp => ?_⟩
      have p12 : (IsG k) (g 1) x := hp _ (List.mem_of_getElem? (i := 0) rfl) (List.contains_iff_mem.1 (by kernel_rfl))
      clear hp
      simp only [fillAll, Act.put, List.setIfInBounds_toArray, List.set_cons_zero, List.set_cons_succ]
      refine chain_go ?_ (free_tells IsP.nob (HG.out.bold p12 HKO.out HKL.out))
      simp [go_sem, execOp]
    · cases ho
      refine ⟨rfl, fun g x hx hp => ?_⟩
      clear hp
      simp only [fillAll, Act.put, List.setIfInBounds_toArray, List.set_cons_zero, List.set_cons_succ]
      refine chain_go ?_ (free_tells IsG.nob (HFc.out x hx))
      simp [go_sem, execOp]
    · cases ho
      refine ⟨rfl, fun g x hx hp => ?_⟩
      have p15 : (IsG k) (g 4) x := hp _ (List.mem_of_getElem? (i := 2) rfl) (List.contains_iff_mem.1 (by kernel_rfl))
      clear hp
      simp only [fillAll, Act.put, List.setIfInBounds_toArray, List.set_cons_zero, List.set_cons_succ]
      refine chain_go ?_ (free_tells IsP.nob (HG.out.large p15 HKO.out HKL.out))
      simp [go_sem, execOp]
    · cases ho
      refine ⟨rfl, fun g x hx hp => ?_⟩
      exact free_var (fun r x => by simp [go_sem, execOp])
    · cases ho
      refine ⟨rfl, fun g x hx hp => ?_⟩
      exact free_var (fun r x => by simp [go_sem, execOp])
  case htail =>
    intro g u hst hne
    have b_w4 : AnyLater w3 (later u) := ⟨u, rfl⟩
    generalize later u = w4 at *
    clear u
    obtain ⟨p12_w4, o12_w4⟩ := hst _ (List.mem_of_getElem? (i := 0) rfl)
    dsimp only at p12_w4 o12_w4
    obtain ⟨p13_w4, o13_w4⟩ := hst _ (List.mem_of_getElem? (i := 1) rfl)
    dsimp only at p13_w4 o13_w4
    obtain ⟨p15_w4, o15_w4⟩ := hst _ (List.mem_of_getElem? (i := 2) rfl)
    dsimp only at p15_w4 o15_w4
    obtain ⟨p16_w4, o16_w4⟩ := hst _ (List.mem_of_getElem? (i := 3) rfl)
    dsimp only at p16_w4 o16_w4
    obtain ⟨⟨b7, e7, s1_w4⟩, o7_w4⟩ := hst _ (List.mem_of_getElem? (i := 4) rfl)
    dsimp only at e7 o7_w4
    have o7_w4 := o7_w4 b7 (by rw [e7]; rfl)
    obtain ⟨⟨b8, e8, s2_w4⟩, o8_w4⟩ := hst _ (List.mem_of_getElem? (i := 5) rfl)
    dsimp only at e8 o8_w4
    have o8_w4 := o8_w4 b8 (by rw [e8]; rfl)
    have d4_5 := hne _ (List.mem_of_getElem? (i := 4) rfl) _ (List.mem_of_getElem? (i := 5) rfl) (by dsimp only; omega)
    dsimp only at d4_5
    have d4_5 := d4_5 b7 (by rw [e7]; rfl)
    have d4_5 : b7 ≠ b8 := fun h => d4_5 (by rw [e8, h]; rfl)
    clear hst hne
    simp only [fillAll, Act.put, List.setIfInBounds_toArray, List.set_cons_zero, List.set_cons_succ, List.drop_succ_cons, List.drop_zero, List.drop_nil]
    generalize g 1 = v12 at *
    generalize g 2 = v13 at *
    generalize g 4 = v15 at *
    generalize g 5 = v16 at *
    rw [e7]
    clear e7
    rw [e8]
    clear e8
    have z_w4 := b_w4.below.size
    have a_w4 := a_w3.trans b_w4
    have s0_w4 := any_own b_w4 s0_w3
    have r0_w4 := own_row s0_w4
    have f0_w4 := own_free s0_w4
    have l0_w4 := own_lt s0_w4
    (try clear r0_w3); (try clear f0_w3)
    have r1_w4 := own_row s1_w4
    have f1_w4 := own_free s1_w4
    have l1_w4 := own_lt s1_w4
    have r2_w4 := own_row s2_w4
    have f2_w4 := own_free s2_w4
    have l2_w4 := own_lt s2_w4
    obtain ⟨b, hb, pb⟩ := p13_w4
    obtain ⟨l, hl, pl⟩ := p16_w4
    have HB4 := Lib.hid hb
    have HL4 := Lib.hid hl
    have HK4 := Lib.hid (HK3.out.later b_w4)
    obtain ⟨A1, n1, cap1, rfl, hn1⟩ := hb.form
    obtain ⟨A2, n2, cap2, rfl, hn2⟩ := hl.form
    have PB := Lib.hid pb
    have PL := Lib.hid pl
    have HN1 := Lib.hid hn1
    have HN2 := Lib.hid hn2
    clear hb hl pb pl hn1 hn2 p12_w4 p15_w4 o12_w4 o13_w4 o15_w4 o16_w4 s0_w3
    go_upto_region 3 with fail
    refine settle_wp (fun wS => AnyLater w wS ∧ Keeps (fun q => q = b7 ∨ q = b8) w4 wS ∧ wS.heap[w.heap.size]? = some (.cells #[.int .i64 k.w, .int .i64 k.h, .slice A n cap] 51) ∧ wS.heap[b7]? = some (.cells #[.int .i64 b.w, .int .i64 b.h, .slice A1 n1 cap1] 51) ∧ wS.heap[b8]? = some (.cells #[.int .i64 l.w, .int .i64 l.h, .slice A2 n2 cap2] 51)) ⟨?_, ?_, ?_, ?_, ?_⟩ ?_
    · repeat' (first | with_reducible assumption | with_reducible exact AnyLater.refl _ | with_reducible apply AnyLater.setCell | with_reducible apply AnyLater.later | with_reducible apply AnyLater.drewN | with_reducible apply AnyLater.drew | with_reducible apply AnyLater.alloc | ((try simp only [World.size_alloc, World.size_setCell, World.size_drew]); (try dsimp only); omega))
    · refine Keeps.setCell (Keeps.setCell (Keeps.setCell (Keeps.setCell (Keeps.setCell (Keeps.setCell (Keeps.refl _ _) ?_ _) ?_ _) ?_ _) ?_ _) ?_ _) ?_ _ <;> first | exact .inl rfl | exact .inr rfl
    · exact heap_far (by omega) (heap_far (by omega) (heap_far (by omega) (heap_far (by omega) (heap_far (by omega) (heap_far (by omega) s0_w4)))))
    · exact heap_far (by omega) (heap_far (by omega) (heap_far (by omega) (heap_at (heap_at (heap_at s1_w4 rfl) rfl) rfl)))
    · exact heap_at (heap_at (heap_at (heap_far (by omega) (heap_far (by omega) (heap_far (by omega) s2_w4))) rfl) rfl) rfl
    rintro w5 ⟨a_w5, k5, sK, sB, sL⟩
    have no32 : ∀ q, (q = b7 ∨ q = b8) → ∀ j z, w4.cell? ⟨q, j, none⟩ ≠ some (.int .u32 z) := fun q hq => by
      rcases hq with rfl | rfl
      · exact box_no32 s1_w4
      · exact box_no32 s2_w4
    have HKc := Lib.hid (HK4.out.keeps k5 no32)
    have HBc := Lib.hid (HB4.out.keeps k5 no32)
    have HLc := Lib.hid (HL4.out.keeps k5 no32)
    have HS : Hid (w5.heap[w.heap.size]? = some (.cells #[.int .i64 k.w, .int .i64 k.h, .slice A n cap] 51) ∧ w5.heap[b7]? = some (.cells #[.int .i64 b.w, .int .i64 b.h, .slice A1 n1 cap1] 51) ∧ w5.heap[b8]? = some (.cells #[.int .i64 l.w, .int .i64 l.h, .slice A2 n2 cap2] 51)) := Lib.hid ⟨sK, sB, sL⟩
    clear s0_w4 s1_w4 s2_w4 r0_w4 r1_w4 r2_w4 f0_w4 f1_w4 f2_w4 no32 k5 sK sB sL HK4 HB4 HL4 a_w4 b_w4
    have CG : Hid (∀ w', AnyLater w5 w' → Calls Try.prog 22 #[.agg #[.int .i64 k.w, .int .i64 k.h, .slice A n cap]] w' fun e w'' => e = .returned (.bool gd) ∧ AnyLater w' w'') := Lib.hid (fun w' ha => refGoodG_any k _ w' gd HGD.out (HKc.out.later ha) HKO.out (by have := HKL.out; omega))
    obtain ⟨cb, hcb⟩ : ∃ c, (!gd || decide (31 < k.w)) = c := ⟨_, rfl⟩
    have HCB := Lib.hid hcb
    go_cut [24] (fun c wx => c = .bool cb ∧ AnyLater w5 wx)
    case first =>
      have r5 := own_row HS.out.1
      have l5 := own_lt HS.out.1
      cases gd with
      | false =>
        obtain rfl : cb = true := by rw [← hcb]; rfl
        clear hcb
        go_wp2_with fail
        refine (CG.out w5 (AnyLater.refl _)).mono ?_
        rintro e w6 ⟨rfl, b6⟩
        have r6 := own_row (any_own b6 HS.out.1)
        go_wp2_with fail
        go_meet
        case rel => exact ⟨rfl, b6⟩
      | true =>
        have hcb2 : decide (31 < k.w) = cb := by rw [← hcb]; rfl
        clear hcb
        go_wp2_with fail
        refine (CG.out w5 (AnyLater.refl _)).mono ?_
        rintro e w6 ⟨rfl, b6⟩
        have r6 := own_row (any_own b6 HS.out.1)
        go_wp2_with fail
        go_meet
        case rel => exact ⟨by first | rfl | rw [hcb2], b6⟩
    case rest =>
    obtain ⟨rfl, b6⟩ := hcut
    generalize wc = w6 at *
    go_upto_if 24 with fail
    go_cut [] (fun wx => AnyLater w5 wx)
    case first =>
      have B6 := Lib.hid b6
      have CN : Hid (noneG b → ∀ w', AnyLater w5 w' → Calls Try.prog 32 #[.agg #[.int .i64 b.w, .int .i64 b.h, .slice A1 n1 cap1]] w' fun e w'' => e = .returned (.bool true) ∧ AnyLater w' w'') := Lib.hid (fun h w' ha => none_any b _ w' true (decide_eq_true ⟨h.1, h.2.1, by rw [h.2.2]; rfl⟩) (HBc.out.later ha))
      cases cb with
      | true =>
        have CN2 := Lib.hid (CN.out (PB.out.no (fun h => by rw [HGD.out] at h; have := HCB.out; rw [h.1] at this; simp at this; omega)))
        have rb6 := own_row (any_own b6 HS.out.2.1)
        clear b6 hcb
        go_wp2_with fail
        refine (CN2.out w6 B6.out).mono ?_
        rintro e w7 ⟨rfl, b7'⟩
        go_wp2_with fail
        go_meet
        case rel => exact B6.out.trans b7'
      | false =>
        have q : k.w ≤ 31 := by have := HCB.out; simp at this; omega
        obtain rfl : gd = true := by have := HCB.out; simp at this; exact this.1
        clear hcb
        obtain ⟨e1, e2, e3, e4⟩ := PB.out.yes HGD.out q
        obtain ⟨gi1, gi2, gi3, gi4, gi5, gi6⟩ := goodG_in e3
        obtain ⟨ki1, ki2, ki3, ki4, ki5, ki6⟩ := goodG_in HGD.out
        have hbl : b.rows.length ≤ 1000 := by omega
        have CI : Hid (∀ w', AnyLater w6 w' → Calls Try.prog 33 #[.agg #[.int .i64 b.w, .int .i64 b.h, .slice A1 n1 cap1], .int .i64 (k.w + 1), .int .i64 k.h] w' fun e w'' => e = .returned (.bool true) ∧ AnyLater w' w'') := Lib.hid (fun w' ha => is_any b _ w' (k.w + 1) k.h true (by rw [e3, decide_eq_true ⟨e1, e2⟩]; rfl) (HBc.out.later (B6.out.trans ha)) PB.out.ok hbl)
        obtain ⟨bb, hbb⟩ : ∃ c, hasB b px py = c := ⟨_, rfl⟩
        have CB : Hid (∀ w', AnyLater w6 w' → Calls Try.prog 23 #[.agg #[.int .i64 b.w, .int .i64 b.h, .slice A1 n1 cap1], .int .i64 px, .int .i64 py] w' fun e w'' => e = .returned (.bool bb) ∧ AnyLater w' w'') := Lib.hid (fun w' ha => refBit_any b _ px py w' bb hbb (HBc.out.later (B6.out.trans ha)) PB.out.ok gi2 hbl HX.out HY.out)
        obtain ⟨b1, hb1⟩ : ∃ c, hasB k px py = c := ⟨_, rfl⟩
        have CK : Hid (∀ w', AnyLater w6 w' → Calls Try.prog 23 #[.agg #[.int .i64 k.w, .int .i64 k.h, .slice A n cap], .int .i64 px, .int .i64 py] w' fun e w'' => e = .returned (.bool b1) ∧ AnyLater w' w'') := Lib.hid (fun w' ha => refBit_any k _ px py w' b1 hb1 (HKc.out.later (B6.out.trans ha)) HKO.out ki2 (by have := HKL.out; omega) HX.out HY.out)
        obtain ⟨b2, hb2⟩ : ∃ c, hasB k (px - 1) py = c := ⟨_, rfl⟩
        have CK2 : Hid (0 < px → ∀ w', AnyLater w6 w' → Calls Try.prog 23 #[.agg #[.int .i64 k.w, .int .i64 k.h, .slice A n cap], .int .i64 (px - 1), .int .i64 py] w' fun e w'' => e = .returned (.bool b2) ∧ AnyLater w' w'') := Lib.hid (fun h0 w' ha => refBit_any k _ (px - 1) py w' b2 hb2 (HKc.out.later (B6.out.trans ha)) HKO.out ki2 (by have := HKL.out; omega) (by have := HX.out; unfold I64 at *; omega) HY.out)
        have hrel := e4 px py
        rw [hbb, hb1, hb2] at hrel
        have hpx := HX.out
        obtain ⟨px1, px2⟩ := hpx
        have s0_w6 := any_own b6 HS.out.1
        have s1_w6 := any_own b6 HS.out.2.1
        have a_w6 := B6.out
        have z_w6 := Nat.le_refl w6.heap.size
        have r0_w6 := own_row s0_w6
        have r1_w6 := own_row s1_w6
        have f0_w6 := own_free s0_w6
        have f1_w6 := own_free s1_w6
        have l0_w6 := own_lt s0_w6
        have l1_w6 := own_lt s1_w6
        clear e1 e2 e3 e4 gi1 gi2 gi3 gi4 gi5 gi6 ki3 ki4 ki5 ki6 hbl hbb hb1 hb2 b6 CN
        cases b1 with
        | true =>
          obtain rfl : bb = true := by rw [hrel]; rfl
          clear hrel
          go_wp2_with fail
          apply wp_region_free (30) [⟨6, 34, .bool true, false, fun v _ => v = .bool true⟩, ⟨12, 40, .bool true, false, fun v _ => v = .bool true⟩, ⟨16, 44, .bool true, false, fun v _ => v = .bool true⟩] [] rfl (by kernel_rfl) (by kernel_rfl) (by kernel_rfl) (by simp) (by kernel_rfl)
          case hstab =>
            intro c hc
            simp only [List.mem_cons, List.not_mem_nil, or_false] at hc
            rcases hc with rfl | rfl | rfl
            · intro v x y hxy hv; exact hv
            · intro v x y hxy hv; exact hv
            · intro v x y hxy hv; exact hv
          case hfix =>
            intro c hc
            simp only [List.mem_cons, List.not_mem_nil, or_false] at hc
            rcases hc with rfl | rfl | rfl
            · exact .inr fun u x h => h
            · exact .inr fun u x h => h
            · exact .inr fun u x h => h
          case hlex =>
            intro U hU
            have q0 := own_row (any_own hU s0_w6)
            have q1 := own_row (any_own hU s1_w6)
            simp only [List.map_cons, List.map_nil, CA.act, actFrom, actOp, List.lookup, Nat.reduceBEq, Nat.reduceLeDiff, Nat.reduceAdd, if_false, if_true]
            repeat (go_big_quiet_step (first | fail))
            exact wpQuiet_nil rfl
          case hstep =>
            intro j hj o ho
            have hj2 : j = 0 ∨ j = 1 ∨ j = 2 := by simp at hj; omega
            rcases hj2 with rfl | rfl | rfl
            · cases ho
              refine ⟨rfl, fun g x hx hp => ?_⟩
              clear hp
              simp only [fillAll, Act.put, List.setIfInBounds_toArray, List.set_cons_zero, List.set_cons_succ]
              refine chain_go ?_ (free_fix (CI.out x hx))
              simp [go_sem, execOp]
            · cases ho
              refine ⟨rfl, fun g x hx hp => ?_⟩
              clear hp
              simp only [fillAll, Act.put, List.setIfInBounds_toArray, List.set_cons_zero, List.set_cons_succ]
              refine chain_go ?_ (free_fix (CB.out x hx))
              simp [go_sem, execOp]
            · cases ho
              refine ⟨rfl, fun g x hx hp => ?_⟩
              clear hp
              simp only [fillAll, Act.put, List.setIfInBounds_toArray, List.set_cons_zero, List.set_cons_succ]
              refine chain_go ?_ (free_fix (CK.out x hx))
              simp [go_sem, execOp]
          case htail =>
            intro g u hst hne
            have b_w7 : AnyLater w6 (later u) := ⟨u, rfl⟩
            generalize later u = w7 at *
            clear u
            clear hst hne
            simp only [fillAll, Act.put, List.setIfInBounds_toArray, List.set_cons_zero, List.set_cons_succ, List.drop_succ_cons, List.drop_zero, List.drop_nil]
            have z_w7 := b_w7.below.size
            have a_w7 := a_w6.trans b_w7
            have s0_w7 := any_own b_w7 s0_w6
            have s1_w7 := any_own b_w7 s1_w6
            have r0_w7 := own_row s0_w7
            have f0_w7 := own_free s0_w7
            have l0_w7 := own_lt s0_w7
            have r1_w7 := own_row s1_w7
            have f1_w7 := own_free s1_w7
            have l1_w7 := own_lt s1_w7
            (try clear r0_w6); (try clear f0_w6)
            (try clear r1_w6); (try clear f1_w6)
            go_wp2_with fail
            go_meet
            case rel => exact a_w7
        | false =>
          by_cases q0 : 0 < px
          · obtain rfl : bb = b2 := by rw [hrel, decide_eq_true q0]; simp
            clear hrel
            have d0 : decide (0 < px) = true := decide_eq_true q0
            have CK3 := Lib.hid (CK2.out q0)
            go_wp2_with fail
            apply wp_region_free (30) [⟨6, 34, .bool true, false, fun v _ => v = .bool true⟩, ⟨12, 40, .bool bb, false, fun v _ => v = .bool bb⟩, ⟨16, 44, .bool false, false, fun v _ => v = .bool false⟩, ⟨25, 53, .bool bb, false, fun v _ => v = .bool bb⟩] [] rfl (by kernel_rfl) (by kernel_rfl) (by kernel_rfl) (by simp) (by kernel_rfl)
            case hstab =>
              intro c hc
              simp only [List.mem_cons, List.not_mem_nil, or_false] at hc
              rcases hc with rfl | rfl | rfl | rfl
              · intro v x y hxy hv; exact hv
              · intro v x y hxy hv; exact hv
              · intro v x y hxy hv; exact hv
              · intro v x y hxy hv; exact hv
            case hfix =>
              intro c hc
              simp only [List.mem_cons, List.not_mem_nil, or_false] at hc
              rcases hc with rfl | rfl | rfl | rfl
              · exact .inr fun u x h => h
              · exact .inr fun u x h => h
              · exact .inr fun u x h => h
              · exact .inr fun u x h => h
            case hlex =>
              intro U hU
              have q0 := own_row (any_own hU s0_w6)
              have q1 := own_row (any_own hU s1_w6)
              simp only [List.map_cons, List.map_nil, CA.act, actFrom, actOp, List.lookup, Nat.reduceBEq, Nat.reduceLeDiff, Nat.reduceAdd, if_false, if_true]
              repeat (go_big_quiet_step (first | fail))
              exact wpQuiet_nil rfl
            case hstep =>
              intro j hj o ho
              have hj2 : j = 0 ∨ j = 1 ∨ j = 2 ∨ j = 3 := by simp at hj; omega
              rcases hj2 with rfl | rfl | rfl | rfl
              · cases ho
                refine ⟨rfl, fun g x hx hp => ?_⟩
                clear hp
                simp only [fillAll, Act.put, List.setIfInBounds_toArray, List.set_cons_zero, List.set_cons_succ]
                refine chain_go ?_ (free_fix (CI.out x hx))
                simp [go_sem, execOp]
              · cases ho
                refine ⟨rfl, fun g x hx hp => ?_⟩
                clear hp
                simp only [fillAll, Act.put, List.setIfInBounds_toArray, List.set_cons_zero, List.set_cons_succ]
                refine chain_go ?_ (free_fix (CB.out x hx))
                simp [go_sem, execOp]
              · cases ho
                refine ⟨rfl, fun g x hx hp => ?_⟩
                clear hp
                simp only [fillAll, Act.put, List.setIfInBounds_toArray, List.set_cons_zero, List.set_cons_succ]
                refine chain_go ?_ (free_fix (CK.out x hx))
                simp [go_sem, execOp]
              · cases ho
                refine ⟨rfl, fun g x hx hp => ?_⟩
                clear hp
                simp only [fillAll, Act.put, List.setIfInBounds_toArray, List.set_cons_zero, List.set_cons_succ]
                refine chain_go ?_ (free_fix (CK3.out x hx))
                simp [go_sem, execOp]
            case htail =>
              intro g u hst hne
              have b_w7 : AnyLater w6 (later u) := ⟨u, rfl⟩
              generalize later u = w7 at *
              clear u
              clear hst hne
              simp only [fillAll, Act.put, List.setIfInBounds_toArray, List.set_cons_zero, List.set_cons_succ, List.drop_succ_cons, List.drop_zero, List.drop_nil]
              have z_w7 := b_w7.below.size
              have a_w7 := a_w6.trans b_w7
              have s0_w7 := any_own b_w7 s0_w6
              have s1_w7 := any_own b_w7 s1_w6
              have r0_w7 := own_row s0_w7
              have f0_w7 := own_free s0_w7
              have l0_w7 := own_lt s0_w7
              have r1_w7 := own_row s1_w7
              have f1_w7 := own_free s1_w7
              have l1_w7 := own_lt s1_w7
              (try clear r0_w6); (try clear f0_w6)
              (try clear r1_w6); (try clear f1_w6)
              go_wp2_with fail
              go_meet
              case rel => exact a_w7
          · obtain rfl : bb = false := by rw [hrel, decide_eq_false q0]; simp
            clear hrel
            have d0 : decide (0 < px) = false := decide_eq_false q0
            go_wp2_with fail
            apply wp_region_free (30) [⟨6, 34, .bool true, false, fun v _ => v = .bool true⟩, ⟨12, 40, .bool false, false, fun v _ => v = .bool false⟩, ⟨16, 44, .bool false, false, fun v _ => v = .bool false⟩] [] rfl (by kernel_rfl) (by kernel_rfl) (by kernel_rfl) (by simp) (by kernel_rfl)
            case hstab =>
              intro c hc
              simp only [List.mem_cons, List.not_mem_nil, or_false] at hc
              rcases hc with rfl | rfl | rfl
              · intro v x y hxy hv; exact hv
              · intro v x y hxy hv; exact hv
              · intro v x y hxy hv; exact hv
            case hfix =>
              intro c hc
              simp only [List.mem_cons, List.not_mem_nil, or_false] at hc
              rcases hc with rfl | rfl | rfl
              · exact .inr fun u x h => h
              · exact .inr fun u x h => h
              · exact .inr fun u x h => h
            case hlex =>
              intro U hU
              have q0 := own_row (any_own hU s0_w6)
              have q1 := own_row (any_own hU s1_w6)
              simp only [List.map_cons, List.map_nil, CA.act, actFrom, actOp, List.lookup, Nat.reduceBEq, Nat.reduceLeDiff, Nat.reduceAdd, if_false, if_true]
              repeat (go_big_quiet_step (first | fail))
              exact wpQuiet_nil rfl
            case hstep =>
              intro j hj o ho
              have hj2 : j = 0 ∨ j = 1 ∨ j = 2 := by simp at hj; omega
              rcases hj2 with rfl | rfl | rfl
              · cases ho
                refine ⟨rfl, fun g x hx hp => ?_⟩
                clear hp
                simp only [fillAll, Act.put, List.setIfInBounds_toArray, List.set_cons_zero, List.set_cons_succ]
                refine chain_go ?_ (free_fix (CI.out x hx))
                simp [go_sem, execOp]
              · cases ho
                refine ⟨rfl, fun g x hx hp => ?_⟩
                clear hp
                simp only [fillAll, Act.put, List.setIfInBounds_toArray, List.set_cons_zero, List.set_cons_succ]
                refine chain_go ?_ (free_fix (CB.out x hx))
                simp [go_sem, execOp]
              · cases ho
                refine ⟨rfl, fun g x hx hp => ?_⟩
                clear hp
                simp only [fillAll, Act.put, List.setIfInBounds_toArray, List.set_cons_zero, List.set_cons_succ]
                refine chain_go ?_ (free_fix (CK.out x hx))
                simp [go_sem, execOp]
            case htail =>
              intro g u hst hne
              have b_w7 : AnyLater w6 (later u) := ⟨u, rfl⟩
              generalize later u = w7 at *
              clear u
              clear hst hne
              simp only [fillAll, Act.put, List.setIfInBounds_toArray, List.set_cons_zero, List.set_cons_succ, List.drop_succ_cons, List.drop_zero, List.drop_nil]
              have z_w7 := b_w7.below.size
              have a_w7 := a_w6.trans b_w7
              have s0_w7 := any_own b_w7 s0_w6
              have s1_w7 := any_own b_w7 s1_w6
              have r0_w7 := own_row s0_w7
              have f0_w7 := own_free s0_w7
              have l0_w7 := own_lt s0_w7
              have r1_w7 := own_row s1_w7
              have f1_w7 := own_free s1_w7
              have l1_w7 := own_lt s1_w7
              (try clear r0_w6); (try clear f0_w6)
              (try clear r1_w6); (try clear f1_w6)
              go_wp2_with fail
              go_meet
              case rel => exact a_w7
    case rest =>
      generalize wc = w7 at *
      have B7 := Lib.hid hcut
      have s0 := any_own hcut HS.out.1
      have s2 := any_own hcut HS.out.2.2
      have rk := own_row s0
      have rl := own_row s2
      clear hcut b6 hcb
      cases gd with
      | false =>
        have hno := PL.out.no (fun h => by rw [HGD.out] at h; cases h.1)
        have CN2 : Hid (∀ w', AnyLater w5 w' → Calls Try.prog 32 #[.agg #[.int .i64 l.w, .int .i64 l.h, .slice A2 n2 cap2]] w' fun e w'' => e = .returned (.bool true) ∧ AnyLater w' w'') := Lib.hid (fun w' ha => none_any l _ w' true (decide_eq_true ⟨hno.1, hno.2.1, by rw [hno.2.2]; rfl⟩) (HLc.out.later ha))
        clear hno
        go_wp2_with fail
        refine (CG.out w7 B7.out).mono ?_
        rintro e w8 ⟨rfl, b8'⟩
        have rk8 := own_row (any_own b8' s0)
        have rl8 := own_row (any_own b8' s2)
        have B8 := Lib.hid (B7.out.trans b8')
        clear b8' rk rl
        go_wp2_with fail
        refine (CN2.out w8 B8.out).mono ?_
        rintro e w9 ⟨rfl, b9⟩
        have B9 := Lib.hid (B8.out.trans b9)
        clear b9 rk8 rl8
        go_wp2_with fail
        refine (HLv.out w9).mono ?_
        rintro e w10 ⟨rfl, b10⟩
        go_wp2_with fail
        go_ret
        exact ⟨rfl, a_w5.trans (B9.out.trans b10)⟩
      | true =>
        by_cases q1 : k.w ≤ 16
        · by_cases q2 : k.h ≤ 16
          · obtain ⟨e1, e2, e3, e4⟩ := PL.out.yes HGD.out q1 q2
            obtain ⟨gi1, gi2, gi3, gi4, gi5, gi6⟩ := goodG_in e3
            obtain ⟨ki1, ki2, ki3, ki4, ki5, ki6⟩ := goodG_in HGD.out
            have hll : l.rows.length ≤ 1000 := by omega
            have CI : Hid (∀ w', AnyLater w5 w' → Calls Try.prog 33 #[.agg #[.int .i64 l.w, .int .i64 l.h, .slice A2 n2 cap2], .int .i64 (2 * k.w), .int .i64 (2 * k.h)] w' fun e w'' => e = .returned (.bool true) ∧ AnyLater w' w'') := Lib.hid (fun w' ha => is_any l _ w' (2 * k.w) (2 * k.h) true (by rw [e3, decide_eq_true ⟨e1, e2⟩]; rfl) (HLc.out.later ha) PL.out.ok hll)
            obtain ⟨lb, hlb⟩ : ∃ c, hasB l px py = c := ⟨_, rfl⟩
            have CB : Hid (∀ w', AnyLater w5 w' → Calls Try.prog 23 #[.agg #[.int .i64 l.w, .int .i64 l.h, .slice A2 n2 cap2], .int .i64 px, .int .i64 py] w' fun e w'' => e = .returned (.bool lb) ∧ AnyLater w' w'') := Lib.hid (fun w' ha => refBit_any l _ px py w' lb hlb (HLc.out.later ha) PL.out.ok gi2 hll HX.out HY.out)
            obtain ⟨kb, hkb⟩ : ∃ c, hasB k (px / 2) (py / 2) = c := ⟨_, rfl⟩
            have CK : Hid (∀ w', AnyLater w5 w' → Calls Try.prog 23 #[.agg #[.int .i64 k.w, .int .i64 k.h, .slice A n cap], .int .i64 (px / 2), .int .i64 (py / 2)] w' fun e w'' => e = .returned (.bool kb) ∧ AnyLater w' w'') := Lib.hid (fun w' ha => refBit_any k _ (px / 2) (py / 2) w' kb hkb (HKc.out.later ha) HKO.out ki2 (by have := HKL.out; omega) (by have := HX.out; unfold I64 at *; omega) (by have := HY.out; unfold I64 at *; omega))
            have hrel := e4 px py
            rw [hlb, hkb] at hrel
            obtain ⟨px1, px2⟩ := HX.out
            obtain ⟨py1, py2⟩ := HY.out
            clear e1 e2 e3 e4 gi1 gi2 gi3 gi4 gi5 gi6 ki5 ki6 hll hlb hkb
            by_cases x0 : 0 ≤ px
            · by_cases y0 : 0 ≤ py
              · have t1 := tdiv_two x0
                have t2 := tdiv_two y0
                have hlb2 : lb = kb := by rw [hrel, decide_eq_true ⟨x0, y0⟩, Bool.true_and]
                subst hlb2
                clear hrel
                go_wp2_with fail
                refine (CG.out w7 B7.out).mono ?_
                rintro e w8 ⟨rfl, b8'⟩
                have s08 := any_own b8' s0
                have s28 := any_own b8' s2
                have rk8 := own_row s08
                have rl8 := own_row s28
                have B8 := Lib.hid (B7.out.trans b8')
                clear b8' rk rl
                go_wp2_with fail
                refine (CI.out w8 B8.out).mono ?_
                rintro e w9 ⟨rfl, b9⟩
                have s09 := any_own b9 s08
                have s29 := any_own b9 s28
                have rk9 := own_row s09
                have rl9 := own_row s29
                have B9 := Lib.hid (B8.out.trans b9)
                clear b9 rk8 rl8
                go_wp2_with fail
                refine (CB.out w9 B9.out).mono ?_
                rintro e w10 ⟨rfl, b10⟩
                have s010 := any_own b10 s09
                have rk10 := own_row s010
                have B10 := Lib.hid (B9.out.trans b10)
                clear b10 rk9 rl9
                go_wp2_with fail
                refine (CK.out w10 B10.out).mono ?_
                rintro e w11 ⟨rfl, b11⟩
                have B11 := Lib.hid (B10.out.trans b11)
                clear b11 rk10
                go_wp2_with fail
                refine (HLv.out w11).mono ?_
                rintro e w12 ⟨rfl, b12⟩
                go_wp2_with fail
                go_ret
                exact ⟨rfl, a_w5.trans (B11.out.trans b12)⟩
              · have hlb0 : lb = false := by rw [hrel, decide_eq_false (fun h => y0 h.2), Bool.false_and]
                have hlb2 : lb = false := hlb0
                subst hlb2
                clear hlb0
                clear hrel
                go_wp2_with fail
                refine (CG.out w7 B7.out).mono ?_
                rintro e w8 ⟨rfl, b8'⟩
                have s08 := any_own b8' s0
                have s28 := any_own b8' s2
                have rk8 := own_row s08
                have rl8 := own_row s28
                have B8 := Lib.hid (B7.out.trans b8')
                clear b8' rk rl
                go_wp2_with fail
                refine (CI.out w8 B8.out).mono ?_
                rintro e w9 ⟨rfl, b9⟩
                have s09 := any_own b9 s08
                have s29 := any_own b9 s28
                have rk9 := own_row s09
                have rl9 := own_row s29
                have B9 := Lib.hid (B8.out.trans b9)
                clear b9 rk8 rl8
                go_wp2_with fail
                refine (CB.out w9 B9.out).mono ?_
                rintro e w10 ⟨rfl, b10⟩
                have s010 := any_own b10 s09
                have rk10 := own_row s010
                have B10 := Lib.hid (B9.out.trans b10)
                clear b10 rk9 rl9
                go_wp2_with fail
                refine (HLv.out w10).mono ?_
                rintro e w12 ⟨rfl, b12⟩
                go_wp2_with fail
                go_ret
                exact ⟨rfl, a_w5.trans (B10.out.trans b12)⟩
            · have hlb0 : lb = false := by rw [hrel, decide_eq_false (fun h => x0 h.1), Bool.false_and]
              have hlb2 : lb = false := hlb0
              subst hlb2
              clear hlb0
              clear hrel
              go_wp2_with fail
              refine (CG.out w7 B7.out).mono ?_
              rintro e w8 ⟨rfl, b8'⟩
              have s08 := any_own b8' s0
              have s28 := any_own b8' s2
              have rk8 := own_row s08
              have rl8 := own_row s28
              have B8 := Lib.hid (B7.out.trans b8')
              clear b8' rk rl
              go_wp2_with fail
              refine (CI.out w8 B8.out).mono ?_
              rintro e w9 ⟨rfl, b9⟩
              have s09 := any_own b9 s08
              have s29 := any_own b9 s28
              have rk9 := own_row s09
              have rl9 := own_row s29
              have B9 := Lib.hid (B8.out.trans b9)
              clear b9 rk8 rl8
              go_wp2_with fail
              refine (CB.out w9 B9.out).mono ?_
              rintro e w10 ⟨rfl, b10⟩
              have s010 := any_own b10 s09
              have rk10 := own_row s010
              have B10 := Lib.hid (B9.out.trans b10)
              clear b10 rk9 rl9
              go_wp2_with fail
              refine (HLv.out w10).mono ?_
              rintro e w12 ⟨rfl, b12⟩
              go_wp2_with fail
              go_ret
              exact ⟨rfl, a_w5.trans (B10.out.trans b12)⟩
          · have hno := PL.out.no (fun h => q2 h.2.2)
            have CN2 : Hid (∀ w', AnyLater w5 w' → Calls Try.prog 32 #[.agg #[.int .i64 l.w, .int .i64 l.h, .slice A2 n2 cap2]] w' fun e w'' => e = .returned (.bool true) ∧ AnyLater w' w'') := Lib.hid (fun w' ha => none_any l _ w' true (decide_eq_true ⟨hno.1, hno.2.1, by rw [hno.2.2]; rfl⟩) (HLc.out.later ha))
            clear hno
            go_wp2_with fail
            refine (CG.out w7 B7.out).mono ?_
            rintro e w8 ⟨rfl, b8'⟩
            have rk8 := own_row (any_own b8' s0)
            have rl8 := own_row (any_own b8' s2)
            have B8 := Lib.hid (B7.out.trans b8')
            clear b8' rk rl
            go_wp2_with fail
            refine (CN2.out w8 B8.out).mono ?_
            rintro e w9 ⟨rfl, b9⟩
            have B9 := Lib.hid (B8.out.trans b9)
            clear b9 rk8 rl8
            go_wp2_with fail
            refine (HLv.out w9).mono ?_
            rintro e w10 ⟨rfl, b10⟩
            go_wp2_with fail
            go_ret
            exact ⟨rfl, a_w5.trans (B9.out.trans b10)⟩
        · have hno := PL.out.no (fun h => q1 h.2.1)
          have CN2 : Hid (∀ w', AnyLater w5 w' → Calls Try.prog 32 #[.agg #[.int .i64 l.w, .int .i64 l.h, .slice A2 n2 cap2]] w' fun e w'' => e = .returned (.bool true) ∧ AnyLater w' w'') := Lib.hid (fun w' ha => none_any l _ w' true (decide_eq_true ⟨hno.1, hno.2.1, by rw [hno.2.2]; rfl⟩) (HLc.out.later ha))
          clear hno
          go_wp2_with fail
          refine (CG.out w7 B7.out).mono ?_
          rintro e w8 ⟨rfl, b8'⟩
          have rk8 := own_row (any_own b8' s0)
          have rl8 := own_row (any_own b8' s2)
          have B8 := Lib.hid (B7.out.trans b8')
          clear b8' rk rl
          go_wp2_with fail
          refine (CN2.out w8 B8.out).mono ?_
          rintro e w9 ⟨rfl, b9⟩
          have B9 := Lib.hid (B8.out.trans b9)
          clear b9 rk8 rl8
          go_wp2_with fail
          refine (HLv.out w9).mono ?_
          rintro e w10 ⟨rfl, b10⟩
          go_wp2_with fail
          go_ret
          exact ⟨rfl, a_w5.trans (B9.out.trans b10)⟩
end Go.Proofs.Ytfliniknaonieaa
