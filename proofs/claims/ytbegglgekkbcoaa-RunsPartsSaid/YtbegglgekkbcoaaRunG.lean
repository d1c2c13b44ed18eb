/- runs: RunsTells, walked. -/
import Derived.Test.YtbegglgekkbcoaaRunF
namespace Go.Proofs.Ytbegglgekkbcoaa
set_option linter.unusedSimpArgs false
set_option linter.unusedVariables false
set_option linter.unusedSectionVars false
open Go.RowKit

theorem small_len {l : Runs} (h : smallR l = true) : (stylesR l).length ≤ 4000 := by
  unfold smallR at h
  rw [Bool.and_eq_true] at h
  exact of_decide_eq_true h.1
theorem few_at (W : World) (v : Value) (l0 l : Runs) (hl : l0.take 60 = l) (hv : RRn W v l0) : Calls Try.prog 8 #[v] W fun e w' => ∃ u, e = .returned u ∧ AnyLater W w' ∧ RRt w' u l := by
  subst hl
  refine (rfew_any v l0 W hv).mono ?_
  rintro e w' ⟨u, h1, h2, h3⟩
  exact ⟨u, h1, h2, h3.typed⟩
theorem few_again {w : World} {v : Value} {l : Runs} (hl : l.length ≤ 60) (hv : RRt w v l) : Calls Try.prog 8 #[v] w fun e w' => ∃ u, e = .returned u ∧ AnyLater w w' ∧ RRt w' u l := few_at w v l l (List.take_of_length_le hl) hv.1
set_option maxRecDepth 100000 in
set_option maxHeartbeats 3200000 in
theorem runsTells_any (T : RSays) (W : World) (v : Value) (l0 : Runs) (i : Int) (hv : RRn W v l0) (hN : NumsR l0) (hi : I64s i) : Calls Try.prog 3 #[v, .int .i64 i] W fun e w' => e = .returned (.bool true) ∧ AnyLater W w' := by
  obtain ⟨l, hl⟩ : ∃ l, l0.take 60 = l := ⟨_, rfl⟩
  have HFew0 := Lib.hid (few_at W v l0 l hl hv)
  have hNl : NumsR l := by rw [← hl]; exact hN.take 60
  have hlen : l.length ≤ 60 := by rw [← hl, List.length_take]; omega
  have HLv := Lib.hid (fun w => rlives_any T w)
  clear hv hN hl
  obtain ⟨c, hc⟩ : ∃ c, smallR l = c := ⟨_, rfl⟩
  have HSm := Lib.hid (fun (w : World) u (h : RRt w u l) => small_any u l w c hc h.1 hNl (by omega))
  cases c with
  | false =>
    clear hc T
    go_enter Try.func3, Try.ntmps3
    go_wp2_with fail
    refine HFew0.out.mono ?_
    rintro e w1 ⟨u, rfl, b1, r1⟩
    have HA1 := Lib.hid b1
    have HR1 := Lib.hid r1
    clear b1 r1
    go_wp2_with fail
    refine (HSm.out _ _ HR1.out).mono ?_
    rintro e w2 ⟨rfl, b2⟩
    have HA2 := Lib.hid (HA1.out.trans b2)
    clear b2
    go_wp2_with fail
    refine (HLv.out _).mono ?_
    rintro e w3 ⟨rfl, b3⟩
    have HA3 := Lib.hid (HA2.out.trans b3)
    clear b3
    go_wp2_with fail
    go_ret
    exact ⟨rfl, HA3.out⟩
  | true =>
    have h4 := small_len hc
    have hS : sR l = stylesR l := sR_small (by omega)
    have hA : ∀ {w : World} {u : Value}, RRt w u l → Asks w u l := fun h => ⟨h, hNl, by omega⟩
    have HSt := Lib.hid (fun (w : World) u (h : RRt w u l) => styles_any u l w h.1 hNl (by omega) h4)
    have HFw := Lib.hid (fun (w : World) u (h : RRt w u l) => few_again (w := w) (v := u) hlen h)
    obtain ⟨t, ht⟩ : ∃ t, tidyR l = t := ⟨_, rfl⟩
    obtain ⟨s, hs⟩ : ∃ s, stylesR l = s := ⟨_, rfl⟩
    rw [hs] at HSt h4 hS
    have hts : ofR s = t := by rw [← ht]; unfold tidyR; rw [hS]
    have htl : t.length ≤ 4000 := by rw [← hts]; exact Nat.le_trans (ofR_length s) h4
    have htn : NumsR t := by rw [← ht]; exact nums_tidy l
    have HTd := Lib.hid (fun (w : World) u (h : RRt w u l) => T.tidy (w := w) (v := u) l t ht (hA h))
    have HOf := Lib.hid (fun (w : World) u (h : RI w u s) => of_any u s w h (by omega))
    rw [hts] at HOf
    have HSame := Lib.hid (fun (w : World) u u2 (h : RRt w u t) (h2 : RRt w u2 t) => rsame_any u u2 t t w true (decide_eq_true rfl) h.1 h2.1 (by omega))
    have HG1 := Lib.hid (fun (w : World) u (h : RRt w u t) => T.good (w := w) (v := u) t true (decide_eq_true (by rw [← ht]; exact tidyR_tidy l)) ⟨h, htn, by omega⟩)
    have HLn := Lib.hid (fun (w : World) u (h : RRt w u l) => T.len (w := w) (v := u) l s.length (by rw [hS]) (hA h))
    obtain ⟨x, hx⟩ : ∃ x, atR l i = x := ⟨_, rfl⟩
    have HAt := Lib.hid (fun (w : World) u (h : RRt w u l) => T.style (w := w) (v := u) l i x hx (hA h) hi)
    obtain ⟨g, hg⟩ : ∃ g, decide (l = t) = g := ⟨_, rfl⟩
    have HG2 := Lib.hid (fun (w : World) u (h : RRt w u l) => T.good (w := w) (v := u) l g (by rw [← hg, ht, decide_eq_decide]; exact eq_comm) (hA h))
    have HSame2 := Lib.hid (fun (w : World) u u2 (h : RRt w u l) (h2 : RRt w u2 t) => rsame_any u u2 l t w g hg h.1 h2.1 (by omega))
    unfold atR at hx
    rw [hS] at hx
    have HX := Lib.hid hx
    obtain ⟨i1, i2⟩ := hi
    clear T hc hS hA ht hs hts htl htn hg hNl hlen hx
    obtain ⟨n, hn⟩ : ∃ n, s.length = n := ⟨_, rfl⟩
    rw [hn] at HLn h4
    have HN := Lib.hid hn
    clear hn
    have hcase : (0 ≤ i ∧ i < n) ∨ ¬ (0 ≤ i) ∨ (0 ≤ i ∧ ¬ i < n) := by omega
    have q0 : (0 ≤ i ∧ i < n) ∨ x = 0 := by
      rcases hcase with h | h | h
      · exact .inl h
      · right; rw [← HX.out, if_neg h]
      · right; rw [← HX.out, if_pos h.1, List.getD_eq_getElem?_getD, List.getElem?_eq_none (by rw [HN.out]; omega)]; rfl
    go_enter Try.func3, Try.ntmps3
    go_wp2_with fail
    refine HFew0.out.mono ?_
    rintro e w1 ⟨u, rfl, b1, r1⟩
    have HA1 := Lib.hid b1
    have HR1 : Hid (∀ w', AnyLater w1 w' → RRt w' u l) := Lib.hid (fun w' h => r1.later h)
    clear b1 r1
    go_wp2_with fail
    refine (HSm.out _ _ (HR1.out _ (AnyLater.refl _))).mono ?_
    rintro e w2 ⟨rfl, b2⟩
    have HB2 := Lib.hid b2
    clear b2
    go_wp2_with fail
    refine (HSt.out _ _ (HR1.out _ HB2.out)).mono ?_
    rintro e w3 ⟨u5, rfl, b3, o3⟩
    have HB3 := Lib.hid (HB2.out.trans b3)
    have HR5 : Hid (∀ w', AnyLater w3 w' → RI w' u5 s) := Lib.hid (fun w' h => o3.rn.later h)
    obtain ⟨A5, c5, rfl, k5, hcell5⟩ := o3.rn
    have HC5 := Lib.hid hcell5
    rw [HN.out] at k5 HR5 ⊢
    clear b3 o3 hcell5
    go_wp2_with fail
    refine (HFw.out _ _ (HR1.out _ HB3.out)).mono ?_
    rintro e w4 ⟨u4, rfl, b4, r4⟩
    have HB4 := Lib.hid b4
    have HR4 := Lib.hid r4
    clear b4 r4
    go_wp2_with fail
    refine (HTd.out _ _ HR4.out).mono ?_
    rintro e w5 ⟨u6, rfl, b5, r5⟩
    have HB5 := Lib.hid (HB4.out.trans b5)
    have HR6 : Hid (∀ w', AnyLater w5 w' → RRt w' u6 t) := Lib.hid (fun w' h => r5.later h)
    clear b5 r5
    rcases hcase with h | h | h
    · obtain ⟨j, rfl⟩ := Int.eq_ofNat_of_zero_le h.1
      have hjn : j < n := by omega
      obtain ⟨b, off, rfl, hb, hcc⟩ := HC5.out (by rw [HN.out]; omega)
      have c0 : w5.cell? ⟨b, off + j, none⟩ = some (.int .i64 x) := by
        have e : s[j]'(by rw [HN.out]; exact hjn) = x := by
          rw [← HX.out, if_pos h.1, Int.toNat_natCast, List.getD_eq_getElem?_getD, List.getElem?_eq_getElem (by rw [HN.out]; exact hjn)]; rfl
        rw [HB5.out.below.cell hb, hcc j (by rw [HN.out]; exact hjn), e]
      clear h q0 hcc
      go_wp2_with fail
      refine (HOf.out _ _ (HR5.out _ HB5.out)).mono ?_
      rintro e w6 ⟨u33, rfl, b6, o6⟩
      have HB6 := Lib.hid (And.intro b6 o6.typed)
      clear b6 o6
      go_wp2_with fail
      refine (HSame.out _ _ _ (HR6.out _ HB6.out.1) HB6.out.2).mono ?_
      rintro e w7 ⟨rfl, b7⟩
      have HB7 := Lib.hid (HB6.out.1.trans b7)
      clear b7
      go_wp2_with fail
      refine (HG1.out _ _ (HR6.out _ HB7.out)).mono ?_
      rintro e w8 ⟨rfl, b8⟩
      have HB8 := Lib.hid (HB7.out.trans b8)
      clear b8
      go_wp2_with fail
      refine (HFw.out _ _ (HR1.out _ (HB3.out.trans (HB5.out.trans HB8.out)))).mono ?_
      rintro e w9 ⟨u41, rfl, b9, r9⟩
      have HB9 := Lib.hid (And.intro (HB8.out.trans b9) r9)
      clear b9 r9
      go_wp2_with fail
      refine (HLn.out _ _ HB9.out.2).mono ?_
      rintro e w10 ⟨rfl, b10⟩
      have HB10 := Lib.hid (HB9.out.1.trans b10)
      clear b10
      go_wp2_with fail
      refine (HFw.out _ _ (HR1.out _ (HB3.out.trans (HB5.out.trans HB10.out)))).mono ?_
      rintro e w11 ⟨u49, rfl, b11, r11⟩
      have HB11 := Lib.hid (And.intro (HB10.out.trans b11) r11)
      clear b11 r11
      go_wp2_with fail
      refine (HAt.out _ _ HB11.out.2).mono ?_
      rintro e w12 ⟨rfl, b12⟩
      have HB12 := Lib.hid (HB11.out.1.trans b12)
      clear b12
      go_wp2_with fail
      refine (HFw.out _ _ (HR1.out _ (HB3.out.trans (HB5.out.trans HB12.out)))).mono ?_
      rintro e w13 ⟨u57, rfl, b13, r13⟩
      have HB13 := Lib.hid (And.intro (HB12.out.trans b13) r13)
      clear b13 r13
      go_wp2_with fail
      refine (HG2.out _ _ HB13.out.2).mono ?_
      rintro e w14 ⟨rfl, b14⟩
      have HB14 := Lib.hid (HB13.out.1.trans b14)
      clear b14
      go_wp2_with fail
      refine (HSame2.out _ _ _ (HR1.out _ (HB3.out.trans (HB5.out.trans HB14.out))) (HR6.out _ HB14.out)).mono ?_
      rintro e w15 ⟨rfl, b15⟩
      have HB15 := Lib.hid (HB14.out.trans b15)
      clear b15
      go_wp2_with fail
      refine (HLv.out _).mono ?_
      rintro e w16 ⟨rfl, b16⟩
      have HB16 := Lib.hid (HA1.out.trans (HB3.out.trans (HB5.out.trans (HB15.out.trans b16))))
      clear b16
      go_wp2_with fail
      go_ret
      exact ⟨rfl, HB16.out⟩
    · obtain rfl : x = 0 := q0.resolve_left (fun q => absurd q.1 (by omega))
      have d0 : decide (0 ≤ i) = false := decide_eq_false (by omega)
      clear h q0
      go_wp2_with fail
      refine (HOf.out _ _ (HR5.out _ HB5.out)).mono ?_
      rintro e w6 ⟨u33, rfl, b6, o6⟩
      have HB6 := Lib.hid (And.intro b6 o6.typed)
      clear b6 o6
      go_wp2_with fail
      refine (HSame.out _ _ _ (HR6.out _ HB6.out.1) HB6.out.2).mono ?_
      rintro e w7 ⟨rfl, b7⟩
      have HB7 := Lib.hid (HB6.out.1.trans b7)
      clear b7
      go_wp2_with fail
      refine (HG1.out _ _ (HR6.out _ HB7.out)).mono ?_
      rintro e w8 ⟨rfl, b8⟩
      have HB8 := Lib.hid (HB7.out.trans b8)
      clear b8
      go_wp2_with fail
      refine (HFw.out _ _ (HR1.out _ (HB3.out.trans (HB5.out.trans HB8.out)))).mono ?_
      rintro e w9 ⟨u41, rfl, b9, r9⟩
      have HB9 := Lib.hid (And.intro (HB8.out.trans b9) r9)
      clear b9 r9
      go_wp2_with fail
      refine (HLn.out _ _ HB9.out.2).mono ?_
      rintro e w10 ⟨rfl, b10⟩
      have HB10 := Lib.hid (HB9.out.1.trans b10)
      clear b10
      go_wp2_with fail
      refine (HFw.out _ _ (HR1.out _ (HB3.out.trans (HB5.out.trans HB10.out)))).mono ?_
      rintro e w11 ⟨u49, rfl, b11, r11⟩
      have HB11 := Lib.hid (And.intro (HB10.out.trans b11) r11)
      clear b11 r11
      go_wp2_with fail
      refine (HAt.out _ _ HB11.out.2).mono ?_
      rintro e w12 ⟨rfl, b12⟩
      have HB12 := Lib.hid (HB11.out.1.trans b12)
      clear b12
      go_wp2_with fail
      refine (HFw.out _ _ (HR1.out _ (HB3.out.trans (HB5.out.trans HB12.out)))).mono ?_
      rintro e w13 ⟨u57, rfl, b13, r13⟩
      have HB13 := Lib.hid (And.intro (HB12.out.trans b13) r13)
      clear b13 r13
      go_wp2_with fail
      refine (HG2.out _ _ HB13.out.2).mono ?_
      rintro e w14 ⟨rfl, b14⟩
      have HB14 := Lib.hid (HB13.out.1.trans b14)
      clear b14
      go_wp2_with fail
      refine (HSame2.out _ _ _ (HR1.out _ (HB3.out.trans (HB5.out.trans HB14.out))) (HR6.out _ HB14.out)).mono ?_
      rintro e w15 ⟨rfl, b15⟩
      have HB15 := Lib.hid (HB14.out.trans b15)
      clear b15
      go_wp2_with fail
      refine (HLv.out _).mono ?_
      rintro e w16 ⟨rfl, b16⟩
      have HB16 := Lib.hid (HA1.out.trans (HB3.out.trans (HB5.out.trans (HB15.out.trans b16))))
      clear b16
      go_wp2_with fail
      go_ret
      exact ⟨rfl, HB16.out⟩
    · obtain rfl : x = 0 := q0.resolve_left (fun q => absurd q.2 (by omega))
      obtain ⟨h1, h2⟩ := h
      have d2 : decide (i < (n : Int)) = false := decide_eq_false (by omega)
      clear q0
      go_wp2_with fail
      refine (HOf.out _ _ (HR5.out _ HB5.out)).mono ?_
      rintro e w6 ⟨u33, rfl, b6, o6⟩
      have HB6 := Lib.hid (And.intro b6 o6.typed)
      clear b6 o6
      go_wp2_with fail
      refine (HSame.out _ _ _ (HR6.out _ HB6.out.1) HB6.out.2).mono ?_
      rintro e w7 ⟨rfl, b7⟩
      have HB7 := Lib.hid (HB6.out.1.trans b7)
      clear b7
      go_wp2_with fail
      refine (HG1.out _ _ (HR6.out _ HB7.out)).mono ?_
      rintro e w8 ⟨rfl, b8⟩
      have HB8 := Lib.hid (HB7.out.trans b8)
      clear b8
      go_wp2_with fail
      refine (HFw.out _ _ (HR1.out _ (HB3.out.trans (HB5.out.trans HB8.out)))).mono ?_
      rintro e w9 ⟨u41, rfl, b9, r9⟩
      have HB9 := Lib.hid (And.intro (HB8.out.trans b9) r9)
      clear b9 r9
      go_wp2_with fail
      refine (HLn.out _ _ HB9.out.2).mono ?_
      rintro e w10 ⟨rfl, b10⟩
      have HB10 := Lib.hid (HB9.out.1.trans b10)
      clear b10
      go_wp2_with fail
      refine (HFw.out _ _ (HR1.out _ (HB3.out.trans (HB5.out.trans HB10.out)))).mono ?_
      rintro e w11 ⟨u49, rfl, b11, r11⟩
      have HB11 := Lib.hid (And.intro (HB10.out.trans b11) r11)
      clear b11 r11
      go_wp2_with fail
      refine (HAt.out _ _ HB11.out.2).mono ?_
      rintro e w12 ⟨rfl, b12⟩
      have HB12 := Lib.hid (HB11.out.1.trans b12)
      clear b12
      go_wp2_with fail
      refine (HFw.out _ _ (HR1.out _ (HB3.out.trans (HB5.out.trans HB12.out)))).mono ?_
      rintro e w13 ⟨u57, rfl, b13, r13⟩
      have HB13 := Lib.hid (And.intro (HB12.out.trans b13) r13)
      clear b13 r13
      go_wp2_with fail
      refine (HG2.out _ _ HB13.out.2).mono ?_
      rintro e w14 ⟨rfl, b14⟩
      have HB14 := Lib.hid (HB13.out.1.trans b14)
      clear b14
      go_wp2_with fail
      refine (HSame2.out _ _ _ (HR1.out _ (HB3.out.trans (HB5.out.trans HB14.out))) (HR6.out _ HB14.out)).mono ?_
      rintro e w15 ⟨rfl, b15⟩
      have HB15 := Lib.hid (HB14.out.trans b15)
      clear b15
      go_wp2_with fail
      refine (HLv.out _).mono ?_
      rintro e w16 ⟨rfl, b16⟩
      have HB16 := Lib.hid (HA1.out.trans (HB3.out.trans (HB5.out.trans (HB15.out.trans b16))))
      clear b16
      go_wp2_with fail
      go_ret
      exact ⟨rfl, HB16.out⟩
end Go.Proofs.Ytbegglgekkbcoaa
