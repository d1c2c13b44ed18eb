/- carets: CaretsMoves. -/
import Derived.Test.YtkobnijjahpifaaCarO
import Derived.Test.YtkobnijjahpifaaCarQ
import Derived.Test.YtkobnijjahpifaaMrkB
import Derived.Test.YtkobnijjahpifaaPairZ
namespace Go.Proofs.Ytkobnijjahpifaa
set_option linter.unusedSimpArgs false
set_option linter.unusedVariables false
set_option linter.unusedSectionVars false
open Go.RowKit

theorem right_within {a o i n : Int} (hg : goodE a o i n = true) : ∀ p, 0 ≤ p → p ≤ n → 0 ≤ rightZ p a o i ∧ rightZ p a o i ≤ n - o + i := by
  intro p h0 h1
  have hb := goodE_in hg
  have hp : plcs p a o i = true := by
    unfold plcs
    rw [plc_iff.2 (by omega), plc_iff.2 (by omega), plc_iff.2 (by omega), plc_iff.2 (by omega)]
    rfl
  unfold rightZ
  rw [if_pos hp]
  split
  · omega
  · split <;> omega
set_option maxRecDepth 100000 in
set_option maxHeartbeats 6400000 in
theorem caretsMoves_any (W : World) (v0 : Value) (l0 : Qs) (a o i n : Int) (hv : QR W v0 l0) : Calls Try.prog 5 #[v0, .agg #[.int .i64 a, .int .i64 o, .int .i64 i], .int .i64 n] W fun e w' => e = .returned (.bool true) ∧ AnyLater W w' := by
  obtain ⟨l, hl⟩ : ∃ l, l0.take 30 = l := ⟨_, rfl⟩
  have hlen : l.length ≤ 30 := by rw [← hl, List.length_take]; omega
  have hb0 : AnyLater W (W.alloc (.cells #[.int .i64 a, .int .i64 o, .int .i64 i] 42)) := (AnyLater.refl W).alloc _
  have HF0 := Lib.hid (cfew_any v0 l0 l _ hl (hv.later hb0))
  have HF := Lib.hid (fun (w : World) (u : Value) (h : QR w u l) => (cfew_any u l l w (List.take_of_length_le hlen) h).mono (fun _ _ ⟨v, h1, h2, h3⟩ => (⟨v, h1, h2, OQ.rq h3⟩ : ∃ v, _ = Ending.returned v ∧ AnyLater w _ ∧ QR _ v l)))
  obtain ⟨M, hM⟩ : ∃ M, movedC (fun p => rightZ p a o i) l = M := ⟨_, rfl⟩
  have hMl : M.length ≤ 30 := by rw [← hM]; exact Nat.le_trans (tidyC_len _) (by rw [List.length_map]; exact hlen)
  have HMv := Lib.hid (fun (w : World) (u : Value) (h : QR w u l) => (move_any u l M a o i w hM h (by omega)).mono (fun _ _ ⟨v, h1, h2, h3⟩ => (⟨v, h1, h2, OQ.rq h3⟩ : ∃ v, _ = Ending.returned v ∧ AnyLater w _ ∧ QR _ v M)))
  have HX := Lib.hid (fun (w : World) (u : Value) (h : QR w u l) => xmove_any u l M a o i w hM h (by omega))
  have HS := Lib.hid (fun (w : World) (u v : Value) (h : QR w u M) (k : QR w v M) => csame_any u v M M w true (by simp) h k (by omega))
  have HG := Lib.hid (fun w => xgood_any a o i n w _ rfl)
  obtain ⟨b1, hb1⟩ : ∃ b, withinC l n = b := ⟨_, rfl⟩
  have HW := Lib.hid (fun (w : World) (u : Value) (h : QR w u l) => xwithin_any u l n b1 w hb1 h (by omega))
  have HGd : Hid (goodE a o i n = true → b1 = true → 0 < l.length → ∀ (w : World) (u : Value), QR w u M → Calls Try.prog 10 #[u, .int .i64 (n - o + i)] w fun e w' => e = .returned (.bool true) ∧ AnyLater w w') := Lib.hid (fun hg hb h0 w u hu =>
    good_any u M (n - o + i) true w (by rw [← hM]; exact movedC_good h0 (hb1.trans hb) (right_within hg)) hu (by omega))
  have HLv := Lib.hid clives_any
  have HGi : Hid (goodE a o i n = true → (0 ≤ n ∧ n ≤ 16777216) ∧ (0 ≤ o ∧ o ≤ n) ∧ 0 ≤ i ∧ i ≤ 16777216) := Lib.hid (fun h => by have := goodE_in h; omega)
  obtain ⟨A0, cap0, rfl, -⟩ := hv.form
  obtain ⟨m, hm⟩ : ∃ m, l.length = m := ⟨_, rfl⟩
  obtain ⟨k, hk⟩ : ∃ k, M.length = k := ⟨_, rfl⟩
  have HN := Lib.hid (And.intro hm hk)
  rw [hm] at HGd
  obtain ⟨z0, hz0⟩ : ∃ z, l0.length = z := ⟨_, rfl⟩
  rw [hz0] at HF0 ⊢
  have HB0 := Lib.hid hb0
  clear hz0 hl hlen hM hMl hb1 hm hk hv hb0
  generalize hge : goodE a o i n = ge at *
  clear hge
  go_enter Try.func5, Try.ntmps5
  go_wp2_with fail
  refine HF0.out.mono ?_
  rintro e w1 ⟨v1, rfl, b1', o1⟩
  have H1 := Lib.hid (And.intro (HB0.out.trans b1') (OQ.rq o1))
  have s0_w1 := any_own b1' (heap_new (w := W) (o := .cells #[.int .i64 a, .int .i64 o, .int .i64 i] 42) rfl)
  obtain ⟨A1, cap1, rfl, -⟩ := o1.form
  rw [HN.out.1] at H1 ⊢
  have a_w1 := H1.out.1
  clear b1' o1
  go_wp2_with fail
  apply Wild.wp_region_free (5) [⟨1, 11, undef, true, fun u w => QR w u l⟩, ⟨3, 13, undef, true, fun u w => QR w u M⟩, ⟨4, 7, undef, true, fun u w => QR w u M⟩] [⟨1, 11, fun u w => QR w u l⟩, ⟨3, 13, fun u w => QR w u M⟩, ⟨4, 7, fun u w => QR w u M⟩] rfl (by kernel_rfl) (by kernel_rfl) (by kernel_rfl) (by simp) (by kernel_rfl)
  case hstab =>
    intro c hc
    simp only [List.mem_cons, List.not_mem_nil, or_false] at hc
    rcases hc with rfl | rfl | rfl
    · intro v x y hxy hv; exact (fun h k => QR.later k h) hxy hv
    · intro v x y hxy hv; exact (fun h k => QR.later k h) hxy hv
    · intro v x y hxy hv; exact (fun h k => QR.later k h) hxy hv
  case hfix =>
    intro c hc
    simp only [List.mem_cons, List.not_mem_nil, or_false] at hc
    rcases hc with rfl | rfl | rfl
    · exact .inl rfl
    · exact .inl rfl
    · exact .inl rfl
  case hlex =>
    intro U hU
    have q0 := own_row (any_own hU s0_w1)
    simp only [List.map_cons, List.map_nil, CA.act, actFrom, actOp, List.lookup, Nat.reduceBEq, Nat.reduceLeDiff, Nat.reduceAdd, if_false, if_true]
    repeat (go_big_quiet_step (fail))
    exact wpQuiet_nil rfl
  case hstep =>
    intro j hj o ho
    have hj2 : j = 0 ∨ j = 1 ∨ j = 2 := by simp at hj; omega
    rcases hj2 with rfl | rfl | rfl
    · cases ho
      refine ⟨rfl, fun g x hx hp => ?_⟩
      clear hp
      simp only [fillAll, Act.put, List.setIfInBounds_toArray, List.set_cons_zero, List.set_cons_succ]
      refine chain_go ?_ (Wild.free_tells (HF.out x _ (H1.out.2.later hx)))
      first | (simp [go_sem, execOp]; done) | simp [go_sem, execOp, hcf]
    · cases ho
      refine ⟨rfl, fun g x hx hp => ?_⟩
      have p11 : (fun u w => QR w u l) (g 1) x := hp _ (List.mem_of_getElem? (i := 0) rfl) (List.contains_iff_mem.1 (by kernel_rfl))
      clear hp
      simp only [fillAll, Act.put, List.setIfInBounds_toArray, List.set_cons_zero, List.set_cons_succ]
      refine chain_go ?_ (Wild.free_tells (HMv.out x _ p11))
      first | (simp [go_sem, execOp]; done) | simp [go_sem, execOp, hcf]
    · cases ho
      refine ⟨rfl, fun g x hx hp => ?_⟩
      have p13 : (fun u w => QR w u M) (g 3) x := hp _ (List.mem_of_getElem? (i := 1) rfl) (List.contains_iff_mem.1 (by kernel_rfl))
      clear hp
      simp only [fillAll, Act.put, List.setIfInBounds_toArray, List.set_cons_zero, List.set_cons_succ]
      refine Wild.free_is (v := g 3) ?_ p13; simp [go_sem, execOp]
  case htail =>
    intro g u hst hne
    have b_w2 : AnyLater w1 (later u) := ⟨u, rfl⟩
    generalize later u = w2 at *
    clear u hne
    obtain ⟨p11_w2, -⟩ := hst _ (List.mem_of_getElem? (i := 0) rfl)
    (try dsimp only at p11_w2)
    obtain ⟨p13_w2, -⟩ := hst _ (List.mem_of_getElem? (i := 1) rfl)
    (try dsimp only at p13_w2)
    obtain ⟨p7_w2, -⟩ := hst _ (List.mem_of_getElem? (i := 2) rfl)
    (try dsimp only at p7_w2)
    clear hst
    simp only [fillAll, Act.put, List.setIfInBounds_toArray, List.set_cons_zero, List.set_cons_succ, List.drop_succ_cons, List.drop_zero, List.drop_nil]
    generalize g 1 = v11 at *
    generalize g 3 = v13 at *
    generalize g 4 = v7 at *
    have z_w2 := b_w2.below.size
    have a_w2 := a_w1.trans b_w2
    have s0_w2 := any_own b_w2 s0_w1
    have r0_w2 := own_row s0_w2
    have f0_w2 := own_free s0_w2
    have l0_w2 := own_lt s0_w2
    (try clear r0_w1); (try clear f0_w1)
    have H2 := Lib.hid (And.intro a_w2 (And.intro (H1.out.2.later b_w2) p7_w2))
    obtain ⟨A2, cap2, rfl, -⟩ := p7_w2.form
    rw [HN.out.2] at H2 ⊢
    clear p7_w2 p11_w2 p13_w2 b_w2 a_w1
    go_wp2_with fail
    refine (HX.out _ _ H2.out.2.1).mono ?_
    rintro e w3 ⟨v3, rfl, b3, o3⟩
    have H3 := Lib.hid (And.intro b3 (OQ.rq o3))
    clear b3 o3
    go_wp2_with fail
    refine (HS.out _ _ _ (H2.out.2.2.later H3.out.1) H3.out.2).mono ?_
    rintro e w4 ⟨rfl, b4⟩
    have H4 := Lib.hid (H3.out.1.trans b4)
    have s0_w4 := any_own H4.out s0_w2
    have r0_w4 := own_row s0_w4
    clear b4
    by_cases g0 : m = 0
    · have g0' : ((m : Int) == 0) = true := by simp [g0]
      have g0'' : (m == 0) = true := by simp [g0]
      clear g0
      go_wp2_with fail
      refine (HLv.out _).mono ?_
      rintro e w5 ⟨rfl, b5⟩
      have H5 := Lib.hid (H2.out.1.trans (H4.out.trans b5))
      clear b5
      go_wp2_with fail
      go_ret
      exact ⟨rfl, H5.out⟩
    · have g0' : ((m : Int) == 0) = false := by simp [g0]
      have g0'' : (m == 0) = false := by simp [g0]
      have hm0 := Lib.hid (Nat.pos_of_ne_zero g0)
      clear g0
      go_wp2_with fail
      refine (HG.out _).mono ?_
      rintro e w5 ⟨rfl, b5⟩
      have H5 := Lib.hid (H4.out.trans b5)
      clear b5
      cases ge with
      | false =>
        go_wp2_with fail
        refine (HLv.out _).mono ?_
        rintro e w6 ⟨rfl, b6⟩
        have H6 := Lib.hid (H2.out.1.trans (H5.out.trans b6))
        clear b6
        go_wp2_with fail
        go_ret
        exact ⟨rfl, H6.out⟩
      | true =>
        go_wp2_with fail
        refine (HW.out _ _ (H2.out.2.1.later H5.out)).mono ?_
        rintro e w6 ⟨rfl, b6⟩
        have H6 := Lib.hid (H5.out.trans b6)
        have s0_w6 := any_own H6.out s0_w2
        have r0_w6 := own_row s0_w6
        clear b6
        cases b1 with
        | false =>
          go_wp2_with fail
          refine (HLv.out _).mono ?_
          rintro e w7 ⟨rfl, b7⟩
          have H7 := Lib.hid (H2.out.1.trans (H6.out.trans b7))
          clear b7
          go_wp2_with fail
          go_ret
          exact ⟨rfl, H7.out⟩
        | true =>
          obtain ⟨⟨i1, i2⟩, ⟨i3, i4⟩, i5, i6⟩ := HGi.out (by simp)
          go_wp2_with fail
          refine (HGd.out (by simp) (by simp) hm0.out _ _ (H2.out.2.2.later H6.out)).mono ?_
          rintro e w7 ⟨rfl, b7⟩
          have H7 := Lib.hid (H6.out.trans b7)
          clear b7
          go_wp2_with fail
          refine (HLv.out _).mono ?_
          rintro e w8 ⟨rfl, b8⟩
          have H8 := Lib.hid (H2.out.1.trans (H7.out.trans b8))
          clear b8
          go_wp2_with fail
          go_ret
          exact ⟨rfl, H8.out⟩
end Go.Proofs.Ytkobnijjahpifaa
