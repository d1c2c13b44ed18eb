/- carets: Spans by contract; CaretsTells. -/
import Derived.Test.YtkobnijjahpifaaCarO
import Derived.Test.YtkobnijjahpifaaMrkB
import Derived.Test.YtkobnijjahpifaaPairZ
import Derived.Test.YtkobnijjahpifaaMake
namespace Go.Proofs.Ytkobnijjahpifaa
set_option linter.unusedSimpArgs false
set_option linter.unusedVariables false
set_option linter.unusedSectionVars false
open Go.RowKit

theorem spanC_take {M : Qs} {j : Nat} (h : j < M.length) : (M.take (j + 1)).filterMap spanC = (M.take j).filterMap spanC ++ (spanC M[j]).toList := by
  rw [List.take_succ_eq_append_getElem h, List.filterMap_append]
  cases hs : spanC M[j] <;> simp [hs]
theorem spanC_le (M : Qs) (j : Nat) : ((M.take j).filterMap spanC).length ≤ j := Nat.le_trans (List.length_filterMap_le _ _) (by rw [List.length_take]; omega)
set_option maxRecDepth 100000 in
set_option maxHeartbeats 3200000 in
theorem spans_any (v : Value) (l N : Qs) (w : World) (hM : spansC l = N) (hv : QR w v l) (hl : l.length ≤ 39) : Calls Try.prog 19 #[v] w (RowS w N) := by
  have HTd := Lib.hid (tidy_any v l _ w rfl hv hl)
  have hMl : (tidyC l).length ≤ 39 := Nat.le_trans (tidyC_len l) hl
  have HM : Hid ((tidyC l).filterMap spanC = N) := Lib.hid hM
  generalize tidyC l = M at *
  obtain ⟨A0, cap0, rfl, -⟩ := hv.form
  clear hM hv hl
  generalize l.length = n0 at *
  go_enter Try.func19, Try.ntmps19
  go_wp2_with fail
  refine HTd.out.mono ?_
  rintro e wt ⟨u, rfl, b_wt, o_wt⟩
  obtain ⟨A, cap, rfl, h2, h3⟩ := OQ.rq o_wt
  have HCC : Hid (∀ (j : Nat) (h : j < M.length), ∃ b off, A = some ⟨b, off, none⟩ ∧ b < wt.heap.size ∧ wt.cell? ⟨b, off + j * 2, none⟩ = some (.int .i64 M[j].1) ∧ wt.cell? ⟨b, off + j * 2 + 1, none⟩ = some (.int .i64 M[j].2)) := Lib.hid (fun j hj => by
    obtain ⟨b, off, e, hb, hc⟩ := h3 (by omega)
    exact ⟨b, off, e, hb, hc j hj⟩)
  have HW := Lib.hid b_wt
  obtain ⟨n, hn⟩ : ∃ n, M.length = n := ⟨_, rfl⟩
  have HN := Lib.hid hn
  rw [hn] at h2 hMl ⊢
  clear h3 hn b_wt o_wt HTd
  go_wp2_with fail
  go_loopg [3, 11] n (fun kk ov iv wr => ∃ j : Nat, kk = n - j ∧ j ≤ n ∧ iv = .int .i64 (j : Int) ∧ AnyLater wt wr ∧ OQ 37 wr wt.heap.size ov ((M.take j).filterMap spanC))
  case atStart => exact ⟨0, by omega, by omega, rfl, AnyLater.refl _, OQ.nil _ _ _⟩
  case round =>
    obtain ⟨j, hk, hj, rfl, a_wr, ho⟩ := hrel
    have HO := Lib.hid ho
    have HA := Lib.hid a_wr
    obtain ⟨A4, cap4, rfl, -⟩ := ho.form
    by_cases hlt : j < n
    · have lj : j < M.length := by rw [HN.out]; exact hlt
      obtain ⟨b, off, rfl, hb, k0, k1⟩ := HCC.out j lj
      have c0 : wr.cell? ⟨b, off + j * 2, none⟩ = some (.int .i64 M[j].1) := (a_wr.below.cell hb).trans k0
      have c1 : wr.cell? ⟨b, off + j * 2 + 1, none⟩ = some (.int .i64 M[j].2) := (a_wr.below.cell hb).trans k1
      have hT := spanC_take lj
      have HLj := spanC_le M j
      have lw := a_wr.below.size
      clear k0 k1
      generalize M[j] = x at *
      obtain ⟨a, h⟩ := x
      simp only at c0 c1 hT
      have HEn := Lib.hid (ends_any a h)
      have hsp : spanC (a, h) = if a = h then none else some (loC (a, h), hiC (a, h)) := rfl
      generalize loC (a, h) = lo at *
      generalize hiC (a, h) = hi at *
      rw [hsp] at hT
      clear hsp ho
      generalize hm : ((M.take j).filterMap spanC).length = m at *
      have HM2 := Lib.hid hm
      clear hm
      by_cases hc : a = h
      · have HCh := Lib.hid (fun w => chooses_any a h w false (by simp [hc]))
        rw [if_pos hc] at hT
        have HT2 := Lib.hid (hT.trans (List.append_nil _))
        clear hT hc
        go_wp2_with fail
        first | refine settle_wp (fun wS => AnyLater wr wS ∧ wS.heap[wr.heap.size]? = some (.cells #[.int .i64 a, .int .i64 h] 29)) ?_ ?_ | refine settle_calls (fun wS => AnyLater wr wS ∧ wS.heap[wr.heap.size]? = some (.cells #[.int .i64 a, .int .i64 h] 29)) ?_ ?_
        · refine ⟨?_, ?_⟩
          · repeat' (first | with_reducible assumption | with_reducible exact AnyLater.refl _ | with_reducible apply AnyLater.setCell | with_reducible apply AnyLater.later | with_reducible apply AnyLater.drewN | with_reducible apply AnyLater.drew | with_reducible apply AnyLater.alloc | ((try simp only [World.size_alloc, World.size_setCell, World.size_drew]); (try dsimp only); omega))
          · ((repeat (first | with_reducible assumption | ((with_reducible apply heap_new); (try simp only [World.size_alloc, World.size_setCell, World.size_drew, World.heap_drewN]); done) | ((with_reducible apply heap_new); (try simp only [World.size_alloc, World.size_setCell, World.size_drew, World.heap_drewN]); omega) | (with_reducible refine heap_old (by (try simp only [World.size_alloc, World.size_setCell, World.size_drew, World.heap_drewN]); omega) ?_) | (with_reducible refine heap_drew ?_) | (with_reducible refine heap_far (by omega) ?_) | (with_reducible apply heap_at))); all_goals rfl)
        rintro w1 ⟨b_w1, s0_w1⟩
        have a_w1 := a_wr.trans b_w1
        have r0_w1 := own_row s0_w1
        have f0_w1 := own_free s0_w1
        have l0_w1 := own_lt s0_w1
        have z_w1 := b_w1.below.size
        go_wp2_with fail
        refine (HEn.out _).mono ?_
        rintro e w2 ⟨rfl, b_w2⟩
        have z_w2 := b_w2.below.size
        have a_w2 := a_w1.trans b_w2
        have s0_w2 := any_own b_w2 s0_w1
        have r0_w2 := own_row s0_w2
        have f0_w2 := own_free s0_w2
        have l0_w2 := own_lt s0_w2
        (try clear r0_w1); (try clear f0_w1)
        go_wp2_with fail
        refine (HCh.out _).mono ?_
        rintro e w3 ⟨rfl, b3⟩
        have HB3 := Lib.hid ((b_w1.trans b_w2).trans b3)
        clear b3
        go_wp2_with fail
        go_roundg (n - (j + 1))
        case measure => omega
        case rel => exact ⟨j + 1, rfl, hlt, by go_num, HA.out.trans HB3.out, by rw [HT2.out]; exact OQ.later HB3.out HO.out⟩
      · have HCh := Lib.hid (fun w => chooses_any a h w true (by simp [hc]))
        rw [if_neg hc] at hT
        have HT2 := Lib.hid hT
        clear hT hc
        go_wp2_with fail
        first | refine settle_wp (fun wS => AnyLater wr wS ∧ wS.heap[wr.heap.size]? = some (.cells #[.int .i64 a, .int .i64 h] 29)) ?_ ?_ | refine settle_calls (fun wS => AnyLater wr wS ∧ wS.heap[wr.heap.size]? = some (.cells #[.int .i64 a, .int .i64 h] 29)) ?_ ?_
        · refine ⟨?_, ?_⟩
          · repeat' (first | with_reducible assumption | with_reducible exact AnyLater.refl _ | with_reducible apply AnyLater.setCell | with_reducible apply AnyLater.later | with_reducible apply AnyLater.drewN | with_reducible apply AnyLater.drew | with_reducible apply AnyLater.alloc | ((try simp only [World.size_alloc, World.size_setCell, World.size_drew]); (try dsimp only); omega))
          · ((repeat (first | with_reducible assumption | ((with_reducible apply heap_new); (try simp only [World.size_alloc, World.size_setCell, World.size_drew, World.heap_drewN]); done) | ((with_reducible apply heap_new); (try simp only [World.size_alloc, World.size_setCell, World.size_drew, World.heap_drewN]); omega) | (with_reducible refine heap_old (by (try simp only [World.size_alloc, World.size_setCell, World.size_drew, World.heap_drewN]); omega) ?_) | (with_reducible refine heap_drew ?_) | (with_reducible refine heap_far (by omega) ?_) | (with_reducible apply heap_at))); all_goals rfl)
        rintro w1 ⟨b_w1, s0_w1⟩
        have a_w1 := a_wr.trans b_w1
        have r0_w1 := own_row s0_w1
        have f0_w1 := own_free s0_w1
        have l0_w1 := own_lt s0_w1
        have z_w1 := b_w1.below.size
        go_wp2_with fail
        refine (HEn.out _).mono ?_
        rintro e w2 ⟨rfl, b_w2⟩
        have z_w2 := b_w2.below.size
        have a_w2 := a_w1.trans b_w2
        have s0_w2 := any_own b_w2 s0_w1
        have r0_w2 := own_row s0_w2
        have f0_w2 := own_free s0_w2
        have l0_w2 := own_lt s0_w2
        (try clear r0_w1); (try clear f0_w1)
        go_wp2_with fail
        refine (HCh.out _).mono ?_
        rintro e w3 ⟨rfl, b3⟩
        have hb3 := (b_w1.trans b_w2).trans b3
        obtain ⟨u, w4, q1, q2, q3⟩ := appQ1 pairSpan (lo, hi) (OQ.later hb3 HO.out) (Nat.le_trans lw hb3.below.size) (by rw [HM2.out]; omega)
        have K1 := Lib.hid q1
        have K2 := Lib.hid (And.intro (q3 wt (Nat.le_refl _) (HA.out.trans hb3)) q2)
        clear b3 hb3 q1 q2 q3
        go_wp2_with (at_builtin; refine Lib.wpList_append_run _ rfl _ _ _ _ rfl _ _ rfl rfl _ _ K1.out ?_)
        go_roundg (n - (j + 1))
        case measure => omega
        case rel => exact ⟨j + 1, rfl, hlt, by go_num, K2.out.1, by rw [HT2.out]; exact K2.out.2⟩
    · obtain rfl : j = n := by omega
      have HE : Hid ((M.take j).filterMap spanC = N) := Lib.hid (by rw [List.take_of_length_le (Nat.le_of_eq HN.out)]; exact HM.out)
      clear a_wr ho
      go_wp2_with fail
      go_ret
      exact ⟨_, rfl, HW.out.trans HA.out, OQ.wide HW.out.below.size (by rw [← HE.out]; exact HO.out)⟩
/-- a row of one type stays where one of another type grows -/
theorem OQ.far {t t' : TypeId} {w w' : World} {B B' : Nat} {v u : Value} {l m : Qs} (hne : t ≠ t') (h : OQ t w B v l) (ho : OQ t' w B' u m) (hg : w.grownBy w' u.ownBlock) : OQ t w' B v l := by
  refine ⟨h.1, ?_⟩
  rcases h.2 with q | ⟨b, cap, cur, h0, h1, h2, h3⟩
  · exact .inl q
  · refine .inr ⟨b, cap, cur, h0, h1, ?_, h3⟩
    exact grown_block hg h2 (owns_ne ho h2 hne)
theorem chosenC_take {l : Qs} {p : Int} {j : Nat} (h : j < l.length) : chosenC (l.take (j + 1)) p = (chosenC (l.take j) p || (decide (loC l[j] ≤ p) && decide (p < hiC l[j]))) := by
  unfold chosenC
  rw [List.take_succ_eq_append_getElem h, List.any_append]
  simp
set_option maxRecDepth 100000 in
set_option maxHeartbeats 6400000 in
theorem caretsTells_any (W : World) (v0 : Value) (l0 : Qs) (a h at_ : Int) (hv : QR W v0 l0) : Calls Try.prog 4 #[v0, .agg #[.int .i64 a, .int .i64 h], .int .i64 at_] W fun e w' => e = .returned (.bool true) ∧ AnyLater W w' := by
  obtain ⟨l, hl⟩ : ∃ l, l0.take 30 = l := ⟨_, rfl⟩
  have hlen : l.length ≤ 30 := by rw [← hl, List.length_take]; omega
  have hb0 : AnyLater W (W.alloc (.cells #[.int .i64 a, .int .i64 h] 29)) := (AnyLater.refl W).alloc _
  have HF0 := Lib.hid (cfew_any v0 l0 l _ hl (hv.later hb0))
  have HF := Lib.hid (fun (w : World) (u : Value) (h : QR w u l) => cfew_any u l l w (List.take_of_length_le hlen) h)
  obtain ⟨M, hM⟩ : ∃ M, tidyC l = M := ⟨_, rfl⟩
  have hMl : M.length ≤ 30 := by rw [← hM]; exact Nat.le_trans (tidyC_len l) hlen
  have HX := Lib.hid (fun (w : World) (u : Value) (h : QR w u l) => xtidy_any u l M w hM h (by omega))
  obtain ⟨S, hS⟩ : ∃ S, M.filterMap spanC = S := ⟨_, rfl⟩
  have hSl : S.length ≤ 30 := by rw [← hS]; exact Nat.le_trans (List.length_filterMap_le _ _) hMl
  have HSp := Lib.hid (fun (w : World) (u : Value) (h : QR w u l) => spans_any u l S w (by unfold spansC; rw [hM, hS]) h (by omega))
  have HSm := Lib.hid (fun (w : World) (u v : Value) (h : QR w u S) (k : QR w v S) => qsame_any u v S S w true (by simp) h k (by omega))
  obtain ⟨b1, hb1⟩ : ∃ b, chosenC l at_ = b := ⟨_, rfl⟩
  have HC := Lib.hid (fun (w : World) (u : Value) (h : QR w u l) => chosen_any u l at_ b1 w hb1 h (by omega))
  have HB1 := Lib.hid hb1
  have HSS := Lib.hid hS
  have HEn := Lib.hid (ends_any a h)
  have HLo := Lib.hid (fun w => low_any a h w _ rfl)
  have HHi := Lib.hid (fun w => high_any a h w _ rfl)
  have HLv := Lib.hid clives_any
  obtain ⟨A0, cap0, rfl, -⟩ := hv.form
  obtain ⟨m, hm⟩ : ∃ m, l.length = m := ⟨_, rfl⟩
  obtain ⟨k, hk⟩ : ∃ k, M.length = k := ⟨_, rfl⟩
  have HN := Lib.hid (And.intro hm hk)
  have hm9 : m ≤ 30 := by omega
  have hk9 : k ≤ 30 := by omega
  obtain ⟨z0, hz0⟩ : ∃ z, l0.length = z := ⟨_, rfl⟩
  rw [hz0] at HF0 ⊢
  have HB0 := Lib.hid hb0
  clear hz0 hl hlen hM hMl hb1 hm hk hv hb0 hS hSl
  generalize loC (a, h) = lz at *
  generalize hiC (a, h) = hz at *
  go_enter Try.func4, Try.ntmps4
  go_wp2_with fail
  refine HF0.out.mono ?_
  rintro e w1 ⟨v1, rfl, b1', o1⟩
  have H1 := Lib.hid (And.intro (HB0.out.trans b1') (OQ.rq o1))
  have s0_w1 := any_own b1' (heap_new (w := W) (o := .cells #[.int .i64 a, .int .i64 h] 29) rfl)
  have r0_w1 := own_row s0_w1
  obtain ⟨A1, cap1, rfl, -⟩ := o1.form
  rw [HN.out.1] at H1 ⊢
  clear b1' o1
  go_wp2_with fail
  refine (HEn.out _).mono ?_
  rintro e w2 ⟨rfl, b2⟩
  have H2 := Lib.hid (And.intro (H1.out.1.trans b2) (H1.out.2.later b2))
  have s0_w2 := any_own b2 s0_w1
  clear b2 r0_w1
  go_wp2_with fail
  have hE := (AnyLater.refl w2).alloc (.cells #[] 37)
  have hE2 : OQ 37 (w2.alloc (.cells #[] 37)) w2.heap.size (.slice (some ⟨w2.heap.size, 0, none⟩) 0 0) [] := OQ.empty (Nat.le_refl _) (heap_new rfl)
  refine (HX.out _ _ (H2.out.2.later hE)).mono ?_
  rintro e w3 ⟨v3, rfl, b3, o3⟩
  have H3 := Lib.hid (And.intro (hE.trans b3) (And.intro (OQ.later b3 hE2) (OQ.wide (C := w2.heap.size) hE.below.size o3)))
  obtain ⟨A3, cap3, rfl, -⟩ := o3.form
  rw [HN.out.2] at H3 ⊢
  clear b3 o3 hE hE2
  have hQl := H2.out.2.later H3.out.1
  go_wp2_with fail
  go_loopg [9, 12] m (fun kk cv iv wr => ∃ i : Nat, kk = m - i ∧ i ≤ m ∧ iv = .int .i64 (i : Int) ∧ cv = .bool (chosenC (l.take i) at_) ∧ AnyLater w3 wr)
  case atStart => exact ⟨0, by omega, by omega, rfl, rfl, AnyLater.refl _⟩
  case round =>
    obtain ⟨i, hk1, hi, rfl, rfl, a_wr⟩ := hrel
    have HA := Lib.hid a_wr
    by_cases hlt : i < m
    · have li : i < l.length := by rw [HN.out.1]; exact hlt
      have i0 : (i : Int) < (m : Int) := by omega
      obtain ⟨b, off, rfl, hb, k0, k1⟩ := hQl.at i li
      have c0 : wr.cell? ⟨b, off + i * 2, none⟩ = some (.int .i64 l[i].1) := (a_wr.below.cell hb).trans k0
      have c1 : wr.cell? ⟨b, off + i * 2 + 1, none⟩ = some (.int .i64 l[i].2) := (a_wr.below.cell hb).trans k1
      have hT := chosenC_take (p := at_) li
      clear k0 k1 a_wr
      obtain ⟨x, hx⟩ : ∃ x, l[i] = x := ⟨_, rfl⟩
      rw [hx] at c0 c1 hT
      clear hx
      obtain ⟨x1, x2⟩ := x
      simp only at c0 c1
      have HL1 := Lib.hid (fun w => low_any x1 x2 w _ rfl)
      have HH1 := Lib.hid (fun w => high_any x1 x2 w _ rfl)
      have HT := Lib.hid hT
      clear hT
      generalize chosenC (l.take i) at_ = cb at *
      generalize loC (x1, x2) = xl at *
      generalize hiC (x1, x2) = xh at *
      cases cb with
      | true =>
        have Q : Hid (true = chosenC (l.take (i + 1)) at_) := Lib.hid (by rw [HT.out]; rfl)
        go_wp2_with fail
        go_roundg (m - (i + 1))
        case measure => omega
        case rel => exact ⟨i + 1, rfl, hlt, by go_num, by rw [← Q.out], HA.out⟩
      | false =>
        by_cases g1 : xl ≤ at_
        · have Q : Hid (decide (at_ < xh) = chosenC (l.take (i + 1)) at_) := Lib.hid (by rw [HT.out, decide_eq_true g1]; rfl)
          go_wp2_with fail
          refine (HL1.out _).mono ?_
          rintro e w4 ⟨rfl, b4⟩
          have c0' := cell_on b4 c0
          have c1' := cell_on b4 c1
          have HB4 := Lib.hid b4
          clear b4
          go_wp2_with fail
          refine (HH1.out _).mono ?_
          rintro e w5 ⟨rfl, b5⟩
          have HB5 := Lib.hid (HA.out.trans (HB4.out.trans b5))
          clear b5
          go_wp2_with fail
          go_roundg (m - (i + 1))
          case measure => omega
          case rel => exact ⟨i + 1, rfl, hlt, by go_num, by rw [← Q.out], HB5.out⟩
        · have g1' : decide (xl ≤ at_) = false := decide_eq_false g1
          have Q : Hid (false = chosenC (l.take (i + 1)) at_) := Lib.hid (by rw [HT.out, g1']; rfl)
          go_wp2_with fail
          refine (HL1.out _).mono ?_
          rintro e w4 ⟨rfl, b4⟩
          have HB4 := Lib.hid (HA.out.trans b4)
          clear b4
          go_wp2_with fail
          go_roundg (m - (i + 1))
          case measure => omega
          case rel => exact ⟨i + 1, rfl, hlt, by go_num, by rw [← Q.out], HB4.out⟩
    · obtain rfl : i = m := by omega
      have e1 : chosenC (l.take i) at_ = b1 := by rw [List.take_of_length_le (Nat.le_of_eq HN.out.1)]; exact HB1.out
      rw [e1]
      rename World => w6
      have H6 := Lib.hid (H3.out.1.trans HA.out)
      have hQM := H3.out.2.2
      have hO0 : OQ 37 w6 w2.heap.size (.slice (some ⟨w2.heap.size, 0, none⟩) 0 0) [] := OQ.later HA.out H3.out.2.1
      have HO0 := Lib.hid hO0
      have HQM6 := Lib.hid (OQ.later HA.out hQM)
      have d9 : decide ((i : Int) < (i : Int)) = false := by simp
      clear e1 hO0 hQM a_wr hlt hQl
      go_wp2_with fail
      go_loopg [10, 13] k (fun kk ov qv wr => ∃ q : Nat, kk = k - q ∧ q ≤ k ∧ qv = .int .i64 (q : Int) ∧ AnyLater w2 wr ∧ OQ 29 wr w2.heap.size (.slice A3 k cap3) M ∧ OQ 37 wr w2.heap.size ov ((M.take q).filterMap spanC))
      case atStart => exact ⟨0, by omega, by omega, rfl, H6.out, HQM6.out, HO0.out⟩
      case round =>
        obtain ⟨q, hk2, hqk, rfl, a_wr, hM, ho⟩ := hrel
        have HR := Lib.hid (And.intro a_wr (And.intro hM ho))
        obtain ⟨A5, cap5, rfl, -⟩ := ho.form
        by_cases hlt2 : q < k
        · have lq : q < M.length := by rw [HN.out.2]; exact hlt2
          have i0 : (q : Int) < (k : Int) := by omega
          have hqr : QR wr (.slice A3 M.length cap3) M := by rw [HN.out.2]; exact OQ.rq hM
          obtain ⟨b, off, rfl, hb, c0, c1⟩ := hqr.at q lq
          have hT := spanC_take lq
          have HLj := spanC_le M q
          have lw := a_wr.below.size
          obtain ⟨x, hx⟩ : ∃ x, M[q] = x := ⟨_, rfl⟩
          rw [hx] at c0 c1 hT
          clear hx hqr hM
          obtain ⟨x1, x2⟩ := x
          simp only at c0 c1 hT
          have HL1 := Lib.hid (fun w => low_any x1 x2 w _ rfl)
          have HH1 := Lib.hid (fun w => high_any x1 x2 w _ rfl)
          have hsp : spanC (x1, x2) = if x1 = x2 then none else some (loC (x1, x2), hiC (x1, x2)) := rfl
          generalize loC (x1, x2) = xl at *
          generalize hiC (x1, x2) = xh at *
          rw [hsp] at hT
          clear hsp ho
          generalize hmm : ((M.take q).filterMap spanC).length = m2 at *
          have HM2 := Lib.hid hmm
          clear hmm
          by_cases hc : x1 = x2
          · have hc' : (x1 != x2) = false := by simp [hc]
            rw [if_pos hc] at hT
            have HT2 := Lib.hid (hT.trans (List.append_nil _))
            clear hT hc
            go_wp2_with fail
            go_quiet (fail)
            have HB3 := Lib.hid ((AnyLater.refl wr).drewN nq)
            go_wp2_with fail
            go_roundg (k - (q + 1))
            case measure => omega
            case rel => exact ⟨q + 1, rfl, hlt2, by go_num, HR.out.1.trans HB3.out, OQ.later HB3.out HR.out.2.1, by rw [HT2.out]; exact OQ.later HB3.out HR.out.2.2⟩
          · have hc' : (x1 != x2) = true := by simp [hc]
            rw [if_neg hc] at hT
            have HT2 := Lib.hid hT
            clear hT hc
            go_wp2_with fail
            go_quiet (fail)
            have hb3 := (AnyLater.refl wr).drewN nq
            have c0' := cell_on hb3 c0
            have c1' := cell_on hb3 c1
            have a_w7 := HR.out.1.trans hb3
            have HMo := Lib.hid (And.intro (OQ.later hb3 HR.out.2.1) (OQ.later hb3 HR.out.2.2))
            clear c0 c1 hb3
            generalize wr.drewN nq = w7 at *
            have c0 := c0'
            have c1 := c1'
            clear c0' c1'
            go_wp2_with fail
            apply Wild.wp_region_free (13) [⟨5, 71, .int .i64 xl, false, fun v _ => v = .int .i64 xl⟩, ⟨10, 76, .int .i64 xh, false, fun v _ => v = .int .i64 xh⟩, ⟨12, 78, undef, true, fun u w => QR w u [(xl, xh)]⟩] [⟨12, 78, fun u w => QR w u [(xl, xh)]⟩] rfl (by kernel_rfl) (by kernel_rfl) (by kernel_rfl) (by simp) (by kernel_rfl)
            case hstab =>
              intro c hc
              simp only [List.mem_cons, List.not_mem_nil, or_false] at hc
              rcases hc with rfl | rfl | rfl
              · intro v x y hxy hv; exact hv
              · intro v x y hxy hv; exact hv
              · intro v x y hxy hv; exact (fun h k => QR.later k h) hxy hv
            case hfix =>
              intro c hc
              simp only [List.mem_cons, List.not_mem_nil, or_false] at hc
              rcases hc with rfl | rfl | rfl
              · exact .inr fun u x h => h
              · exact .inr fun u x h => h
              · exact .inl rfl
            case hlex =>
              intro U hU
              have q_c0 := cell_on hU c0
              have q_c1 := cell_on hU c1
              simp only [List.map_cons, List.map_nil, CA.act, actFrom, actOp, List.lookup, Nat.reduceBEq, Nat.reduceLeDiff, Nat.reduceAdd, if_false, if_true]
              repeat (go_big_quiet_step (fail))
              exact wpQuiet_nil rfl
            case hstep =>
              intro j hj o ho
              have hj2 : j = 0 ∨ j = 1 ∨ j = 2 := by simp at hj; omega
              rcases hj2 with rfl | rfl | rfl
              · cases ho
                refine ⟨rfl, fun g x hx hp => ?_⟩
                clear hp
                simp only [fillAll, Act.put, List.setIfInBounds_toArray, List.set_cons_zero, List.set_cons_succ]
                refine chain_go ?_ (Wild.free_fix (HL1.out x))
                first | (simp [go_sem, execOp]; done) | simp [go_sem, execOp, hcf]
              · cases ho
                refine ⟨rfl, fun g x hx hp => ?_⟩
                clear hp
                simp only [fillAll, Act.put, List.setIfInBounds_toArray, List.set_cons_zero, List.set_cons_succ]
                refine chain_go ?_ (Wild.free_fix (HH1.out x))
                first | (simp [go_sem, execOp]; done) | simp [go_sem, execOp, hcf]
              · cases ho
                refine ⟨rfl, fun g x hx hp => ?_⟩
                clear hp
                simp only [fillAll, Act.put, List.setIfInBounds_toArray, List.set_cons_zero, List.set_cons_succ]
                refine Wild.free_make (v := .slice (some ⟨x.heap.size, 0, none⟩) 1 1) (w' := x.alloc (.cells #[.int .i64 xl, .int .i64 xh] 37)) (by simp [go_sem, execOp]) ((AnyLater.refl x).alloc _) (OQ.rq (OQ.one (B := 0) (r := (xl, xh)) (Nat.zero_le _) (heap_new rfl)))
            case htail =>
              intro g u hst hne
              have b_w8 : AnyLater w7 (later u) := ⟨u, rfl⟩
              generalize later u = w8 at *
              clear u hne
              obtain ⟨p78_w8, -⟩ := hst _ (List.mem_of_getElem? (i := 0) rfl)
              (try dsimp only at p78_w8)
              clear hst
              simp only [fillAll, Act.put, List.setIfInBounds_toArray, List.set_cons_zero, List.set_cons_succ, List.drop_succ_cons, List.drop_zero, List.drop_nil]
              generalize g 12 = v78 at *
              have z_w8 := b_w8.below.size
              have a_w8 := a_w7.trans b_w8
              have c0_w8 := cell_on b_w8 c0
              have c1_w8 := cell_on b_w8 c1
              obtain ⟨A7, c7, rfl, -⟩ := p78_w8.form
              have ho2 := OQ.later b_w8 HMo.out.2
              obtain ⟨u, w9, q1, q2, q3⟩ := appQ pairSpan ho2 p78_w8 a_w8.below.size (by rw [HM2.out]; simp; omega)
              rw [show ([(xl, xh)] : Qs).length = 1 from rfl] at q1
              have K1 := Lib.hid q1
              have K2 := Lib.hid (And.intro (OQ.grown ho2 (Nat.le_refl _) a_w8 q3) (And.intro (OQ.far (by decide) (OQ.later b_w8 HMo.out.1) ho2 q3) q2))
              clear q1 q2 q3 ho2 p78_w8
              go_wp2_with (at_builtin; refine Lib.wpList_append_run _ rfl _ _ _ _ rfl _ _ rfl rfl _ _ K1.out ?_)
              go_roundg (k - (q + 1))
              case measure => omega
              case rel => exact ⟨q + 1, rfl, hlt2, by go_num, K2.out.1, K2.out.2.1, by rw [HT2.out]; exact K2.out.2.2⟩
        · obtain rfl : q = k := by omega
          have HE : Hid (QR wr (.slice A5 ((M.take q).filterMap spanC).length cap5) S) := Lib.hid (by
            have := OQ.rq HR.out.2.2
            rw [List.take_of_length_le (Nat.le_of_eq HN.out.2), HSS.out] at this ⊢
            exact this)
          have d8 : decide ((q : Int) < (q : Int)) = false := by simp
          have s0_wr := any_own a_wr s0_w2
          have r0_wr := own_row s0_wr
          have HQl := Lib.hid (H2.out.2.later a_wr)
          clear ho hM a_wr hlt2
          generalize ((M.take q).filterMap spanC).length = m2 at *
          go_wp2_with fail
          refine (HLo.out _).mono ?_
          rintro e y1 ⟨rfl, z1⟩
          have s0_y1 := any_own z1 s0_wr
          have r0_y1 := own_row s0_y1
          have Y1 := Lib.hid z1
          have e1 : (lz == lz) = true := by simp
          clear z1
          go_wp2_with fail
          refine (HHi.out _).mono ?_
          rintro e y2 ⟨rfl, z2⟩
          have Y2 := Lib.hid (Y1.out.trans z2)
          have e2 : (hz == hz) = true := by simp
          clear z2
          go_wp2_with fail
          refine (HF.out _ _ (HQl.out.later Y2.out)).mono ?_
          rintro e y3 ⟨v3', rfl, z3, p3⟩
          have Y3 := Lib.hid (And.intro (Y2.out.trans z3) (OQ.rq p3))
          clear z3 p3
          go_wp2_with fail
          refine (HC.out _ _ Y3.out.2).mono ?_
          rintro e y4 ⟨rfl, z4⟩
          have Y4 := Lib.hid (Y3.out.1.trans z4)
          clear z4
          have e3 : (b1 == b1) = true := by simp
          go_wp2_with fail
          refine (HF.out _ _ (HQl.out.later Y4.out)).mono ?_
          rintro e y5 ⟨v5', rfl, z5, p5⟩
          have Y5 := Lib.hid (And.intro (Y4.out.trans z5) (OQ.rq p5))
          clear z5 p5
          go_wp2_with fail
          refine (HSp.out _ _ Y5.out.2).mono ?_
          rintro e y6 ⟨v6', rfl, z6, p6⟩
          have Y6 := Lib.hid (And.intro (Y5.out.1.trans z6) (OQ.rq p6))
          clear z6 p6
          go_wp2_with fail
          refine (HSm.out _ _ _ Y6.out.2 (HE.out.later Y6.out.1)).mono ?_
          rintro e y7 ⟨rfl, z7⟩
          have Y7 := Lib.hid (Y6.out.1.trans z7)
          clear z7
          go_wp2_with fail
          refine (HLv.out _).mono ?_
          rintro e y8 ⟨rfl, z8⟩
          have Y8 := Lib.hid (H2.out.1.trans (HR.out.1.trans (Y7.out.trans z8)))
          clear z8
          go_wp2_with fail
          go_ret
          exact ⟨rfl, Y8.out⟩
end Go.Proofs.Ytkobnijjahpifaa
