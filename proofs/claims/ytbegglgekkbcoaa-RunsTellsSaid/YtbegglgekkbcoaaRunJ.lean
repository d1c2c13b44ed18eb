/- runs: RunsParts, walked. -/
import Derived.Test.YtbegglgekkbcoaaRunG
import Derived.Test.YtbegglgekkbcoaaWild
import Derived.Deep.DeepCutAuto
namespace Go.Proofs.Ytbegglgekkbcoaa
set_option linter.unusedSimpArgs false
set_option linter.unusedVariables false
set_option linter.unusedSectionVars false
open Go.RowKit

theorem one_tells {f : FuncId} {args : Array Value} {w : World} {m : Runs} (h : Calls Try.prog f args w (Tells1 w m)) : Calls Try.prog f args w fun e w' => ∃ u, e = .returned u ∧ AnyLater w w' ∧ RRt w' u m := h
/-- v[a:b], v a slice of numbers of 64 bits -/
theorem RN.mid {w : World} {A : Option Addr} {n cap : Nat} {l : List Int} (h : RI w (.slice A n cap) l) (a b : Nat) (hab : a ≤ b) (hb : b ≤ l.length) : ∃ u, RI w u ((l.take b).drop a) ∧ ∀ w', (Instr.sliceAt 26 (.slice A n cap) (some (.int .i64 (a : Int))) (some (.int .i64 (b : Int))) none).run Try.prog w' = .ok u w' := by
  obtain ⟨A', cap', e, h2, h3⟩ := h
  cases e
  have ht := RN.take ⟨A, cap, rfl, h2, h3⟩ b hb
  have hl : (l.take b).length = b := by rw [List.length_take]; omega
  have hd := RN.drop (l := l.take b) (n := a) (cap := cap) (A := A) (by rw [hl]; exact ht) (by rw [hl]; exact hab)
  refine ⟨_, hd, fun w' => ?_⟩
  rw [run_sliceAt_slice w' _ _ _ _ _ Try.underlying26, run_slice_lh w' _ A l.length cap Try.underlying26 .i64 .i64 (a : Int) (b : Int) (by omega) (by omega) (by omega)]
  have hz : ∀ w, (Go.sizeOf (Try.prog.elem 26)).run Try.prog w = .ok 1 w := fun w => by simp [go_sem]
  rw [hz, hl]
  simp [Result.andThen, sliced]
theorem of_tells {wc : World} {u : Value} {m : List Int} (h : ∀ w', AnyLater wc w' → RI w' u m) (hm : m.length ≤ 4000) (x : World) (hx : AnyLater wc x) : Calls Try.prog 14 #[u] x fun e w' => ∃ v, e = .returned v ∧ AnyLater x w' ∧ RRt w' v (ofR m) :=
  (of_any u m x (h x hx) (by omega)).mono fun _ _ ⟨v, h1, h2, h3⟩ => ⟨v, h1, h2, h3.typed⟩
theorem part_of {s : List Int} {f b : Nat} (hb : b ≤ s.length) : (s.take b).drop (min f b) = (s.take b).drop (min f s.length) := by
  rcases Nat.le_total f b with h | h
  · rw [Nat.min_eq_left h, Nat.min_eq_left (by omega)]
  · rw [Nat.min_eq_right h, List.drop_of_length_le (by rw [List.length_take]; omega), List.drop_of_length_le (by rw [List.length_take]; omega)]
set_option maxRecDepth 100000 in
set_option maxHeartbeats 3200000 in
theorem runsParts_any (T : RSays) (W : World) (v : Value) (l0 : Runs) (f t : Int) (hv : RRn W v l0) (hN : NumsR l0) (hf : I64s f) (ht : I64s t) : Calls Try.prog 6 #[v, .int .i64 f, .int .i64 t] W fun e w' => e = .returned (.bool true) ∧ AnyLater W w' := by
  obtain ⟨l, hl⟩ : ∃ l, l0.take 60 = l := ⟨_, rfl⟩
  have HFew0 := Lib.hid (few_at W v l0 l hl hv)
  have hNl : NumsR l := by rw [← hl]; exact hN.take 60
  have hlen : l.length ≤ 60 := by rw [← hl, List.length_take]; omega
  have HLv := Lib.hid (fun w => rlives_any T w)
  clear hv hN hl
  obtain ⟨c, hc⟩ : ∃ c, smallR l = c := ⟨_, rfl⟩
  have HSm := Lib.hid (fun (w : World) u (h : RRt w u l) => small_any u l w c hc h.1 hNl (by omega))
  cases c with
  | false =>
    clear hc T
    go_enter Try.func6, Try.ntmps6
    go_wp2_with fail
    refine HFew0.out.mono ?_
    rintro e w1 ⟨u, rfl, b1, r1⟩
    have HA1 := Lib.hid b1
    have HR1 : Hid (∀ w', AnyLater w1 w' → RRt w' u l) := Lib.hid (fun w' h => r1.later h)
    clear b1 r1
    go_wp2_with fail
    refine (HSm.out _ _ (HR1.out _ (AnyLater.refl _))).mono ?_
    rintro e w2 ⟨rfl, b2⟩
    have HB2 := Lib.hid b2
    clear b2
    go_wp2_with fail
    refine (HLv.out _).mono ?_
    rintro e w3 ⟨rfl, b3⟩
    have HA3 := Lib.hid (HA1.out.trans (HB2.out.trans b3))
    clear b3
    go_wp2_with fail
    go_ret
    exact ⟨rfl, HA3.out⟩
  | true =>
    have h4 := small_len hc
    have hS : sR l = stylesR l := sR_small (by omega)
    have hA : ∀ {w : World} {u : Value}, RRt w u l → Asks w u l := fun h => ⟨h, hNl, by omega⟩
    have HSt := Lib.hid (fun (w : World) u (h : RRt w u l) => styles_any u l w h.1 hNl (by omega) h4)
    have HFw := Lib.hid (fun (w : World) u (h : RRt w u l) => few_again (w := w) (v := u) hlen h)
    have HP1 := Lib.hid (fun (w : World) u (h : RRt w u l) => T.part (w := w) (v := u) l _ 0 t rfl (hA h) (by constructor <;> omega) ht)
    have HP2 := Lib.hid (fun (w : World) u (h : RRt w u l) => T.part (w := w) (v := u) l _ t 1099511627776 rfl (hA h) ht (by constructor <;> omega))
    have HP3 := Lib.hid (fun (w : World) u (h : RRt w u l) => T.part (w := w) (v := u) l _ f t rfl (hA h) hf ht)
    have hgS : ∀ x ∈ sR l, goodS x = true := sR_good
    have HTd := Lib.hid (fun (w : World) u (m : Runs) (h : Asks w u m) => T.tidy (w := w) (v := u) m _ rfl h)
    unfold partR at HP1 HP2 HP3
    rw [hS] at HP1 HP2 HP3 hgS
    obtain ⟨s, hs⟩ : ∃ s, stylesR l = s := ⟨_, rfl⟩
    rw [hs] at HSt h4 HP1 HP2 HP3 hgS
    obtain ⟨n, hn⟩ : ∃ n, s.length = n := ⟨_, rfl⟩
    have HN := Lib.hid hn
    have hall := (part_all s t).resolve_right (by omega)
    have hgp : ∀ {f t : Int}, ∀ x ∈ partL s f t, goodS x = true := fun x hx => hgS x (List.mem_of_mem_take (List.mem_of_mem_drop hx))
    have hlp : ∀ {f t : Int}, (partL s f t).length ≤ 4000 := by intro f t; unfold partL; rw [List.length_drop, List.length_take]; omega
    obtain ⟨P1, hP1⟩ : ∃ P, partL s 0 t = P := ⟨_, rfl⟩
    obtain ⟨P2, hP2⟩ : ∃ P, partL s t 1099511627776 = P := ⟨_, rfl⟩
    obtain ⟨a1, ha1⟩ : ∃ a : Nat, a = f.toNat := ⟨_, rfl⟩
    obtain ⟨b1, hb1⟩ : ∃ a : Nat, a = t.toNat := ⟨_, rfl⟩
    obtain ⟨aN, haN⟩ : ∃ a : Nat, a = min f.toNat (min t.toNat n) := ⟨_, rfl⟩
    obtain ⟨bN, hbN⟩ : ∃ b : Nat, b = min t.toNat n := ⟨_, rfl⟩
    have HQ := Lib.hid (And.intro ha1 (And.intro hb1 (And.intro haN hbN)))
    have HCut : Hid ((s.take bN).drop aN = partL s f t) := Lib.hid (by
      unfold partL clampZ
      rw [haN, ← hbN, part_of (by omega), hn, hbN])
    rw [hP1] at HP1 hall
    rw [hP2] at HP2 hall
    have hboth : tidyR (ofR P1 ++ ofR P2) = ofR s := by
      have e : stylesR (ofR P1 ++ ofR P2) = s := by
        rw [stylesR_append, styles_of (by rw [← hP1]; exact hgp) (by rw [← hP1]; exact Nat.le_trans hlp (by decide)), styles_of (by rw [← hP2]; exact hgp) (by rw [← hP2]; exact Nat.le_trans hlp (by decide)), hall]
      unfold tidyR
      rw [sR_small (by rw [e]; omega), e]
    have HB := Lib.hid hboth
    have HNum : Hid (NumsR (ofR P1 ++ ofR P2)) := Lib.hid (fun r hr => by
      rcases List.mem_append.1 hr with h | h
      · exact nums_of (by rw [← hP1]; exact hgp) (by rw [← hP1]; exact Nat.le_trans hlp (by decide)) r h
      · exact nums_of (by rw [← hP2]; exact hgp) (by rw [← hP2]; exact Nat.le_trans hlp (by decide)) r h)
    have HL1 : Hid ((ofR P1).length ≤ 4000) := Lib.hid (Nat.le_trans (ofR_length P1) (by rw [← hP1]; exact hlp))
    have HL2 : Hid ((ofR P2).length ≤ 4000) := Lib.hid (Nat.le_trans (ofR_length P2) (by rw [← hP2]; exact hlp))
    have HOf := Lib.hid (fun (w : World) u (m : List Int) (h : RI w u m) (hm : m.length ≤ 4000) => of_any u m w h (by omega))
    have HLp := Lib.hid (hlp (f := f) (t := t))
    have HLq : Hid ((ofR (partL s f t)).length ≤ 4000) := Lib.hid (Nat.le_trans (ofR_length _) hlp)
    have HLs := Lib.hid h4
    have HLo : Hid ((ofR s).length ≤ 4000) := Lib.hid (Nat.le_trans (ofR_length _) h4)
    have HSame := Lib.hid (fun (w : World) u u2 (m : Runs) (h : RRt w u m) (h2 : RRt w u2 m) (hm : m.length ≤ 4000) => rsame_any u u2 m m w true (decide_eq_true rfl) h.1 h2.1 (by omega))
    rw [hn] at h4
    obtain ⟨f1, f2⟩ := hf
    obtain ⟨t1, t2⟩ := ht
    clear T hc hS hA hs hn hNl hlen hgS hall hgp hlp hboth hP1 hP2 ha1 hb1 haN hbN
    go_enter Try.func6, Try.ntmps6
    go_wp2_with fail
    refine HFew0.out.mono ?_
    rintro e w1 ⟨u, rfl, b1, r1⟩
    have HA1 := Lib.hid b1
    have HR1 : Hid (∀ w', AnyLater w1 w' → RRt w' u l) := Lib.hid (fun w' h => r1.later h)
    clear b1 r1
    go_wp2_with fail
    refine (HSm.out _ _ (HR1.out _ (AnyLater.refl _))).mono ?_
    rintro e w2 ⟨rfl, b2⟩
    have HB2 := Lib.hid b2
    clear b2
    go_wp2_with fail
    refine (HSt.out _ _ (HR1.out _ HB2.out)).mono ?_
    rintro e w3 ⟨v7, rfl, b3, o3⟩
    have HB3 := Lib.hid (HB2.out.trans b3)
    have HR7 : Hid (∀ w', AnyLater w3 w' → RI w' v7 s) := Lib.hid (fun w' h => o3.rn.later h)
    obtain ⟨A7, c7, rfl, k7⟩ := o3.form
    rw [HN.out] at k7 HR7 ⊢
    clear b3 o3
    go_upto_if 24 with fail
    go_cut [8] (fun v wx => v = .int .i64 (a1 : Int) ∧ wx = w3)
    case first =>
      by_cases e1 : f < 0
      · go_wp2_with fail
        go_meet
        case rel => exact ⟨congrArg (Value.int .i64) (show (0 : Int) = a1 by have := HQ.out; omega), rfl⟩
      · have d1 : decide (f < 0) = false := decide_eq_false e1
        go_wp2_with fail
        go_meet
        case rel => exact ⟨congrArg (Value.int .i64) (show f = a1 by have := HQ.out; omega), rfl⟩
    case rest =>
      obtain ⟨rfl, rfl⟩ := hcut
      go_upto_if 26 with fail
      go_cut [9] (fun v wx => v = .int .i64 (b1 : Int) ∧ wx = wc)
      case first =>
        by_cases e1 : t < 0
        · go_wp2_with fail
          go_meet
          case rel => exact ⟨congrArg (Value.int .i64) (show (0 : Int) = b1 by have := HQ.out; omega), rfl⟩
        · have d1 : decide (t < 0) = false := decide_eq_false e1
          go_wp2_with fail
          go_meet
          case rel => exact ⟨congrArg (Value.int .i64) (show t = b1 by have := HQ.out; omega), rfl⟩
      case rest =>
        obtain ⟨rfl, rfl⟩ := hcut
        go_upto_if 30 with fail
        go_cut [9] (fun v wx => v = .int .i64 (bN : Int) ∧ wx = wc)
        case first =>
          by_cases e1 : n < b1
          · go_wp2_with fail
            go_meet
            case rel => exact ⟨congrArg (Value.int .i64) (show (n : Int) = bN by have := HQ.out; omega), rfl⟩
          · have d1 : decide ((n : Int) < (b1 : Int)) = false := decide_eq_false (by omega)
            go_wp2_with fail
            go_meet
            case rel => exact ⟨congrArg (Value.int .i64) (show (b1 : Int) = bN by have := HQ.out; omega), rfl⟩
        case rest =>
          obtain ⟨rfl, rfl⟩ := hcut
          go_upto_if 35 with fail
          go_cut [8] (fun v wx => v = .int .i64 (aN : Int) ∧ wx = wc)
          case first =>
            by_cases e1 : bN < a1
            · go_wp2_with fail
              go_meet
              case rel => exact ⟨congrArg (Value.int .i64) (show (bN : Int) = aN by have := HQ.out; omega), rfl⟩
            · have d1 : decide ((bN : Int) < (a1 : Int)) = false := decide_eq_false (by omega)
              go_wp2_with fail
              go_meet
              case rel => exact ⟨congrArg (Value.int .i64) (show (a1 : Int) = aN by have := HQ.out; omega), rfl⟩
          case rest =>
            obtain ⟨rfl, rfl⟩ := hcut
            go_wp2_with fail
            refine (HFw.out _ _ (HR1.out _ HB3.out)).mono ?_
            rintro e w4 ⟨u38, rfl, b4, r4⟩
            have HB4 := Lib.hid (And.intro b4 r4)
            clear b4 r4
            go_wp2_with fail
            refine (HP1.out _ _ HB4.out.2).mono ?_
            rintro e w5 ⟨v10, rfl, b5, r5⟩
            have HB5 := Lib.hid (And.intro (HB4.out.1.trans b5) r5)
            clear b5 r5
            go_wp2_with fail
            refine (HFw.out _ _ (HR1.out _ (HB3.out.trans HB5.out.1))).mono ?_
            rintro e w6 ⟨u42, rfl, b6, r6⟩
            have HB6 := Lib.hid (And.intro b6 r6)
            clear b6 r6
            go_wp2_with fail
            refine (HP2.out _ _ HB6.out.2).mono ?_
            rintro e w7 ⟨v11, rfl, b7, r7⟩
            have hr10 : RRt w7 v10 (ofR P1) := HB5.out.2.later (HB6.out.1.trans b7)
            obtain ⟨u2, w8, k1, k2, k3⟩ := copyRuns hr10.1 (Nat.le_trans HL1.out (by decide))
            obtain ⟨u3, w9, q1, q2, q3⟩ := appRuns k3 (r7.later k2).1 k2.below.size (by have := HL1.out; have := HL2.out; omega)
            have K1 := Lib.hid k1
            have K2 := Lib.hid q1
            have HB9 : Hid (AnyLater wc w9 ∧ RRt w9 u3 (ofR P1 ++ ofR P2)) := Lib.hid ⟨HB5.out.1.trans (HB6.out.1.trans (b7.trans (ORn.grown k3 (Nat.le_refl _) k2 q3))), q2.typed⟩
            clear k1 k2 k3 q1 q2 q3 hr10 b7 r7
            go_wp2_with (at_builtin; first | refine Lib.wpList_append_run _ rfl _ _ _ _ rfl _ _ rfl rfl _ _ K1.out ?_ | refine Lib.wpList_append_run _ rfl _ _ _ _ rfl _ _ rfl rfl _ _ K2.out ?_)
            refine (HTd.out _ _ _ ⟨HB9.out.2, HNum.out, by rw [List.length_append]; have := HL1.out; have := HL2.out; omega⟩).mono ?_
            rintro e w10 ⟨v12, rfl, b10, r10⟩
            rw [HB.out] at r10
            have HB10 := Lib.hid (HB9.out.1.trans b10)
            have a_w10 := AnyLater.refl w10
            have HR12 : Hid (∀ w', AnyLater w10 w' → RRt w' v12 (ofR s)) := Lib.hid (fun w' h => r10.later h)
            clear b10 r10
            obtain ⟨u59, hu59, hmid⟩ := (HR7.out wc (AnyLater.refl _)).mid aN bN (by have := HQ.out; omega) (by rw [HN.out]; have := HQ.out; omega)
            rw [HCut.out] at hu59
            have HC59 : Hid (∀ w', AnyLater wc w' → RI w' u59 (partL s f t)) := Lib.hid (fun w' h => hu59.later h)
            clear hu59
            go_wp2_with fail
            apply Wild.wp_region_free (20) [⟨1, 52, undef, true, fun u x => RRt x u l⟩, ⟨4, 55, undef, true, fun u x => RRt x u (ofR (partL s f t))⟩, ⟨9, 60, undef, true, fun u x => RRt x u (ofR (partL s f t))⟩, ⟨10, 61, .bool true, false, fun v _ => v = .bool true⟩, ⟨14, 65, undef, true, fun u x => RRt x u (ofR s)⟩, ⟨15, 66, .bool true, false, fun v _ => v = .bool true⟩, ⟨18, 69, .bool true, false, fun v _ => v = .bool true⟩] [⟨1, 52, fun u x => RRt x u l⟩, ⟨4, 55, fun u x => RRt x u (ofR (partL s f t))⟩, ⟨9, 60, fun u x => RRt x u (ofR (partL s f t))⟩, ⟨14, 65, fun u x => RRt x u (ofR s)⟩] rfl (by kernel_rfl) (by kernel_rfl) (by kernel_rfl) (by simp) (by kernel_rfl)
            case hstab =>
              intro c hc
              simp only [List.mem_cons, List.not_mem_nil, or_false] at hc
              rcases hc with rfl | rfl | rfl | rfl | rfl | rfl | rfl
              · intro v x y hxy hv; exact (fun h k => RRt.later k h) hxy hv
              · intro v x y hxy hv; exact (fun h k => RRt.later k h) hxy hv
              · intro v x y hxy hv; exact (fun h k => RRt.later k h) hxy hv
              · intro v x y hxy hv; exact hv
              · intro v x y hxy hv; exact (fun h k => RRt.later k h) hxy hv
              · intro v x y hxy hv; exact hv
              · intro v x y hxy hv; exact hv
            case hfix =>
              intro c hc
              simp only [List.mem_cons, List.not_mem_nil, or_false] at hc
              rcases hc with rfl | rfl | rfl | rfl | rfl | rfl | rfl
              · exact .inl rfl
              · exact .inl rfl
              · exact .inl rfl
              · exact .inr fun u x h => h
              · exact .inl rfl
              · exact .inr fun u x h => h
              · exact .inr fun u x h => h
            case hlex =>
              intro U hU
              simp only [List.map_cons, List.map_nil, CA.act, actFrom, actOp, List.lookup, Nat.reduceBEq, Nat.reduceLeDiff, Nat.reduceAdd, if_false, if_true]
              repeat (go_big_quiet_step (first | fail))
              exact wpQuiet_nil rfl
            case hstep =>
              intro j hj o ho
              have hj2 : j = 0 ∨ j = 1 ∨ j = 2 ∨ j = 3 ∨ j = 4 ∨ j = 5 ∨ j = 6 := by simp at hj; omega
              rcases hj2 with rfl | rfl | rfl | rfl | rfl | rfl | rfl
              · cases ho
                refine ⟨rfl, fun g x hx hp => ?_⟩
                clear hp
                simp only [fillAll, Act.put, List.setIfInBounds_toArray, List.set_cons_zero, List.set_cons_succ]
                refine chain_go ?_ (Wild.free_tells (HFw.out x _ (HR1.out _ (HB3.out.trans (HB10.out.trans hx)))))
                simp [go_sem, execOp]
              · cases ho
                refine ⟨rfl, fun g x hx hp => ?_⟩
                have p52 : (fun u x => RRt x u l) (g 1) x := hp _ (List.mem_of_getElem? (i := 0) rfl) (List.contains_iff_mem.1 (by kernel_rfl))
                clear hp
                simp only [fillAll, Act.put, List.setIfInBounds_toArray, List.set_cons_zero, List.set_cons_succ]
                refine chain_go ?_ (Wild.free_tells (HP3.out x _ p52))
                simp [go_sem, execOp]
              · cases ho
                refine ⟨rfl, fun g x hx hp => ?_⟩
                clear hp
                simp only [fillAll, Act.put, List.setIfInBounds_toArray, List.set_cons_zero, List.set_cons_succ]
                refine chain_go ?_ (Wild.free_tells (of_tells HC59.out HLp.out x (HB10.out.trans hx)))
                simp [go_sem, execOp]
              · cases ho
                refine ⟨rfl, fun g x hx hp => ?_⟩
                have p55 : (fun u x => RRt x u (ofR (partL s f t))) (g 4) x := hp _ (List.mem_of_getElem? (i := 1) rfl) (List.contains_iff_mem.1 (by kernel_rfl))
                have p60 : (fun u x => RRt x u (ofR (partL s f t))) (g 9) x := hp _ (List.mem_of_getElem? (i := 2) rfl) (List.contains_iff_mem.1 (by kernel_rfl))
                clear hp
                simp only [fillAll, Act.put, List.setIfInBounds_toArray, List.set_cons_zero, List.set_cons_succ]
                refine chain_go ?_ (Wild.free_fix (HSame.out x _ _ _ p55 p60 HLq.out))
                simp [go_sem, execOp]
              · cases ho
                refine ⟨rfl, fun g x hx hp => ?_⟩
                clear hp
                simp only [fillAll, Act.put, List.setIfInBounds_toArray, List.set_cons_zero, List.set_cons_succ]
                refine chain_go ?_ (Wild.free_tells (of_tells HR7.out HLs.out x (HB10.out.trans hx)))
                simp [go_sem, execOp]
              · cases ho
                refine ⟨rfl, fun g x hx hp => ?_⟩
                have p65 : (fun u x => RRt x u (ofR s)) (g 14) x := hp _ (List.mem_of_getElem? (i := 3) rfl) (List.contains_iff_mem.1 (by kernel_rfl))
                clear hp
                simp only [fillAll, Act.put, List.setIfInBounds_toArray, List.set_cons_zero, List.set_cons_succ]
                refine chain_go ?_ (Wild.free_fix (HSame.out x _ _ _ (HR12.out x hx) p65 HLo.out))
                simp [go_sem, execOp]
              · cases ho
                refine ⟨rfl, fun g x hx hp => ?_⟩
                clear hp
                simp only [fillAll, Act.put, List.setIfInBounds_toArray, List.set_cons_zero, List.set_cons_succ]
                refine chain_go ?_ (Wild.free_fix (HLv.out x))
                simp [go_sem, execOp]
            case htail =>
              intro g u hst hne
              have b_w11 : AnyLater w10 (later u) := ⟨u, rfl⟩
              generalize later u = w11 at *
              clear u hne
              obtain ⟨p52_w11, -⟩ := hst _ (List.mem_of_getElem? (i := 0) rfl)
              (try dsimp only at p52_w11)
              obtain ⟨p55_w11, -⟩ := hst _ (List.mem_of_getElem? (i := 1) rfl)
              (try dsimp only at p55_w11)
              obtain ⟨p60_w11, -⟩ := hst _ (List.mem_of_getElem? (i := 2) rfl)
              (try dsimp only at p60_w11)
              obtain ⟨p65_w11, -⟩ := hst _ (List.mem_of_getElem? (i := 3) rfl)
              (try dsimp only at p65_w11)
              clear hst
              simp only [fillAll, Act.put, List.setIfInBounds_toArray, List.set_cons_zero, List.set_cons_succ, List.drop_succ_cons, List.drop_zero, List.drop_nil]
              generalize g 1 = v52 at *
              generalize g 4 = v55 at *
              generalize g 9 = v60 at *
              generalize g 14 = v65 at *
              have z_w11 := b_w11.below.size
              have a_w11 := a_w10.trans b_w11
              have HA11 := Lib.hid (HA1.out.trans (HB3.out.trans (HB10.out.trans b_w11)))
              clear b_w11
              go_wp2_with fail
              go_ret
              exact ⟨rfl, HA11.out⟩
end Go.Proofs.Ytbegglgekkbcoaa
