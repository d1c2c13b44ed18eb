/- runs: RunsEdits, walked. -/
import Derived.Test.YtbegglgekkbcoaaRunG
import Derived.Test.YtbegglgekkbcoaaChain
import Derived.BigQuiet
namespace Go.Proofs.Ytbegglgekkbcoaa
set_option linter.unusedSimpArgs false
set_option linter.unusedVariables false
set_option linter.unusedSectionVars false
open Go.RowKit

theorem ofR_app (a b : List Int) : (ofR (a ++ b)).length ≤ a.length + (ofR b).length := by
  induction a with
  | nil => simp
  | cons x a ih =>
    have := (consR_length x (ofR (a ++ b))).1
    show (consR x (ofR (a ++ b))).length ≤ _
    rw [List.length_cons]; omega
theorem ofR_rep (x : Int) (d : List Int) : ∀ n : Nat, (ofR (List.replicate n x ++ d)).length ≤ 1 + d.length
  | 0 => by simp; have := ofR_length d; omega
  | 1 => by
    have := (consR_length x (ofR d)).1
    have h2 := ofR_length d
    show (consR x (ofR d)).length ≤ _
    omega
  | n + 2 => by
    have ih := ofR_rep x d (n + 1)
    rw [List.replicate_succ, List.cons_append] at ih ⊢
    obtain ⟨m, r, e, _⟩ := ofR_head x (List.replicate n x ++ d)
    show (consR x (ofR (List.replicate (n + 1) x ++ d))).length ≤ _
    rw [List.replicate_succ, List.cons_append, e, consR_cons, if_pos rfl]
    rw [e] at ih
    exact ih
theorem ins_len {s : List Int} {a k : Nat} (h : a ≤ s.length) : (insL s a k).length = s.length + k := by
  unfold insL
  simp only [List.length_append, List.length_take, List.length_replicate, List.length_drop, Int.toNat_natCast]; omega
theorem ins_runs {s : List Int} {a k : Nat} : (ofR (insL s a k)).length ≤ 2 * s.length + 1 := by
  unfold insL
  rw [List.append_assoc]
  have h1 := ofR_app (s.take (a : Int).toNat) (List.replicate (k : Int).toNat (aheadL s a) ++ s.drop (a : Int).toNat)
  have h2 := ofR_rep (aheadL s a) (s.drop (a : Int).toNat) (k : Int).toNat
  rw [List.length_drop] at h2
  rw [List.length_take] at h1
  omega
theorem ins_good {s : List Int} {a k : Int} (h : ∀ x ∈ s, goodS x = true) : ∀ x ∈ insL s a k, goodS x = true := by
  intro x hx
  unfold insL at hx
  rcases List.mem_append.1 hx with hx | hx
  · rcases List.mem_append.1 hx with hx | hx
    · exact h x (List.mem_of_mem_take hx)
    · rw [List.eq_of_mem_replicate hx]
      unfold aheadL
      rw [List.getD_eq_getElem?_getD]
      cases hg : s[(a - 1).toNat]? with
      | none => rfl
      | some y => exact h y (List.mem_of_getElem? hg)
  · exact h x (List.mem_of_mem_drop hx)
def stE (w7 w8 w9 : World) (M : Runs) (j : Nat) (g : Nat → Value) (x : World) : Prop := match j with
  | 0 => x = w7.drew
  | 1 => x = w7.drew.alloc (.cells #[] 3)
  | 2 => x = w8
  | 3 => x = w9
  | 4 => RRt x (g 12) M
  | _ => True
theorem chain_append {P : Program} {F : Act} {o : Oper} {v : Value} {w w' : World} {R : Value → World → Prop} (s x : Operand) (t tn : TypeId) (ho : o.op = .call { callee := .builtin .append, args := #[s, x], argTypes := #[t, tn] }) (vs vx : Value) (hs : F.eval s = vs) (hx : F.eval x = vx)
    (hr : (Builtin.append_ #[t, tn] o.type #[vs, vx]).run P w = .ok v w') (h : R v w') : ChainStep P F o w R := by
  refine chain_value (w' := w') ?_ h
  unfold execOp
  simp only [ho, resolve, invoke, builtin, Sem.run_bind, Sem.run_pure, Result.andThen_ok, List.map_toArray, List.map_cons, List.map_nil, hs, hx, hr]
set_option maxRecDepth 100000 in
set_option maxHeartbeats 6400000 in
theorem runsEdits_any (T : RSays) (W : World) (v : Value) (l0 : Runs) (f q : Int) (hv : RRn W v l0) (hN : NumsR l0) (hf : I64s f) (hq : I64s q) : Calls Try.prog 5 #[v, .int .i64 f, .int .i64 q] W fun e w' => e = .returned (.bool true) ∧ AnyLater W w' := by
  obtain ⟨l, hl⟩ : ∃ l, l0.take 60 = l := ⟨_, rfl⟩
  have HFew0 := Lib.hid (few_at W v l0 l hl hv)
  have hNl : NumsR l := by rw [← hl]; exact hN.take 60
  have hlen : l.length ≤ 60 := by rw [← hl, List.length_take]; omega
  have HLv := Lib.hid (fun w => rlives_any T w)
  clear hv hN hl
  obtain ⟨c, hc⟩ : ∃ c, smallR l = c := ⟨_, rfl⟩
  have HSm := Lib.hid (fun (w : World) u (h : RRt w u l) => small_any u l w c hc h.1 hNl (by omega))
  cases c with
  | false =>
    clear hc T
    go_enter Try.func5, Try.ntmps5
    go_wp2_with fail
    refine HFew0.out.mono ?_
    rintro e w1 ⟨u, rfl, b1, r1⟩
    have HA1 := Lib.hid b1
    have HR1 : Hid (∀ w', AnyLater w1 w' → RRt w' u l) := Lib.hid (fun w' h => r1.later h)
    clear b1 r1
    go_wp2_with fail
    refine (HSm.out _ _ (HR1.out _ (AnyLater.refl _))).mono ?_
    rintro e w2 ⟨rfl, b2⟩
    have HB2 := Lib.hid b2
    clear b2
    go_wp2_with fail
    refine (HLv.out _).mono ?_
    rintro e w3 ⟨rfl, b3⟩
    have HA3 := Lib.hid (HA1.out.trans (HB2.out.trans b3))
    clear b3
    go_wp2_with fail
    go_ret
    exact ⟨rfl, HA3.out⟩
  | true =>
    have h4 := small_len hc
    have hS : sR l = stylesR l := sR_small (by omega)
    have hA : ∀ {w : World} {u : Value}, RRt w u l → Asks w u l := fun h => ⟨h, hNl, by omega⟩
    have HSt := Lib.hid (fun (w : World) u (h : RRt w u l) => styles_any u l w h.1 hNl (by omega) h4)
    have HFw := Lib.hid (fun (w : World) u (h : RRt w u l) => few_again (w := w) (v := u) hlen h)
    obtain ⟨M1, c1, hM1⟩ : ∃ M c, insR l f q = (M, c) := ⟨_, _, rfl⟩
    obtain ⟨M2, c2, hM2⟩ : ∃ M c, delR l f q = (M, c) := ⟨_, _, rfl⟩
    have HIns := Lib.hid (fun (w : World) u (h : RRt w u l) => T.ins (w := w) (v := u) l M1 f q c1 hM1 (hA h) hf hq)
    have HDel := Lib.hid (fun (w : World) u (h : RRt w u l) => T.del (w := w) (v := u) l M2 f q c2 hM2 (hA h) hf hq)
    have hgS : ∀ x ∈ sR l, goodS x = true := sR_good
    unfold insR at hM1
    unfold delR at hM2
    rw [hS] at hM1 hM2 hgS
    obtain ⟨s, hs⟩ : ∃ s, stylesR l = s := ⟨_, rfl⟩
    rw [hs] at HSt h4 hM1 hM2 hgS
    have HSame := Lib.hid (fun (w : World) u u2 (m : Runs) (h : RRt w u m) (h2 : RRt w u2 m) (hm : m.length ≤ 90000) => rsame_any u u2 m m w true (decide_eq_true rfl) h.1 h2.1 (by omega))
    have HOS : Hid ((ofR s).length ≤ 90000) := Lib.hid (by have := ofR_length s; omega)
    obtain ⟨m, hn⟩ : ∃ n, s.length = n := ⟨_, rfl⟩
    have HN := Lib.hid hn
    have HN7 := HN
    obtain ⟨f1, f2⟩ := id hf
    obtain ⟨q1, q2⟩ := id hq
    clear hc hS hA hs hNl hlen
    by_cases hout : f < 0 ∨ (s.length : Int) < f ∨ q < 0
    · rw [if_pos hout] at hM1
      rw [if_pos (by omega)] at hM2
      obtain ⟨rfl, rfl⟩ : [] = M1 ∧ 1 = c1 := ⟨(Prod.mk.inj hM1).1, (Prod.mk.inj hM1).2⟩
      obtain ⟨rfl, rfl⟩ : [] = M2 ∧ 1 = c2 := ⟨(Prod.mk.inj hM2).1, (Prod.mk.inj hM2).2⟩
      rw [hn] at h4 hout
      clear hM1 hM2 T hgS hn hf hq
      have hcase : f < 0 ∨ (0 ≤ f ∧ (m : Int) < f) ∨ (0 ≤ f ∧ f ≤ m ∧ q < 0) := by omega
      clear hout
      rcases hcase with h | ⟨h, h'⟩ | ⟨h, h', h''⟩
      all_goals (try have d1 : decide (f < 0) = false := decide_eq_false (by omega))
      all_goals (try have d2 : decide ((m : Int) < f) = false := decide_eq_false (by omega))
      all_goals
        go_enter Try.func5, Try.ntmps5
        go_wp2_with fail
        refine HFew0.out.mono ?_
        rintro e w1 ⟨u, rfl, b1, r1⟩
        have HA1 := Lib.hid b1
        have HR1 : Hid (∀ w', AnyLater w1 w' → RRt w' u l) := Lib.hid (fun w' h => r1.later h)
        clear b1 r1
        go_wp2_with fail
        refine (HSm.out _ _ (HR1.out _ (AnyLater.refl _))).mono ?_
        rintro e w2 ⟨rfl, b2⟩
        have HB2 := Lib.hid b2
        clear b2
        go_wp2_with fail
        refine (HSt.out _ _ (HR1.out _ HB2.out)).mono ?_
        rintro e w3 ⟨v7, rfl, b3, o3⟩
        have HB3 := Lib.hid (HB2.out.trans b3)
        have HR7 : Hid (∀ w', AnyLater w3 w' → RI w' v7 s) := Lib.hid (fun w' h => o3.rn.later h)
        obtain ⟨A7, c7, rfl, k7⟩ := o3.form
        rw [HN.out] at k7 HR7 ⊢
        clear b3 o3
        go_wp2_with fail
        refine (HFw.out _ _ (HR1.out _ HB3.out)).mono ?_
        rintro e w4 ⟨u24, rfl, b4, r4⟩
        have HB4 := Lib.hid (And.intro b4 r4)
        clear b4 r4
        go_wp2_with fail
        refine (HIns.out _ _ HB4.out.2).mono ?_
        rintro e w5 ⟨v8, rfl, b5, r5⟩
        have HB5 := Lib.hid (HB4.out.1.trans b5)
        have HR8 : Hid (∀ w', AnyLater w5 w' → RRt w' v8 []) := Lib.hid (fun w' h => r5.later h)
        obtain ⟨A8, c8, rfl, _⟩ := r5.1
        simp only [List.length_nil] at *
        clear b5 r5
        go_wp2_with fail
        refine (HFw.out _ _ (HR1.out _ (HB3.out.trans HB5.out))).mono ?_
        rintro e w6 ⟨u32, rfl, b6, r6⟩
        have HB6 := Lib.hid (And.intro b6 r6)
        clear b6 r6
        go_wp2_with fail
        refine (HDel.out _ _ HB6.out.2).mono ?_
        rintro e w7 ⟨v10, rfl, b7, r7⟩
        have HB7 := Lib.hid (HB6.out.1.trans b7)
        have HR10 : Hid (∀ w', AnyLater w7 w' → RRt w' v10 []) := Lib.hid (fun w' h => r7.later h)
        obtain ⟨A10, c10, rfl, _⟩ := r7.1
        simp only [List.length_nil] at *
        clear b7 r7
        go_wp2_with fail
        refine (HLv.out _).mono ?_
        rintro e w8 ⟨rfl, b8⟩
        have HA8 := Lib.hid (HA1.out.trans (HB3.out.trans (HB5.out.trans (HB7.out.trans b8))))
        clear b8
        go_wp2_with fail
        go_ret
        exact ⟨rfl, HA8.out⟩
    · rw [if_neg hout] at hM1
      obtain ⟨a, rfl⟩ := Int.eq_ofNat_of_zero_le (show 0 ≤ f by omega)
      obtain ⟨k, rfl⟩ := Int.eq_ofNat_of_zero_le (show 0 ≤ q by omega)
      have hle : a ≤ s.length := by omega
      have HIM : Hid ((ofR (insL s a k)).length ≤ 40000) := Lib.hid (by have := ins_runs (s := s) (a := a) (k := k); omega)
      have hil := ins_len (k := k) hle
      have d1 : decide ((a : Int) < 0) = false := decide_eq_false (by omega)
      have d2 : decide ((m : Int) < (a : Int)) = false := decide_eq_false (by omega)
      have d3 : decide ((k : Int) < 0) = false := decide_eq_false (by omega)
      by_cases hlim : 16777216 - (s.length : Int) < k
      · rw [if_pos hlim] at hM1
        rw [if_pos (by omega)] at hM2
        obtain ⟨rfl, rfl⟩ : [] = M1 ∧ 2 = c1 := ⟨(Prod.mk.inj hM1).1, (Prod.mk.inj hM1).2⟩
        obtain ⟨rfl, rfl⟩ : [] = M2 ∧ 1 = c2 := ⟨(Prod.mk.inj hM2).1, (Prod.mk.inj hM2).2⟩
        rw [hn] at h4 hlim hle
        have e1 : (m : Int) - (a : Int) < (k : Int) := by omega
        clear hM1 hM2 T hgS hn hf hq hout hil
        go_enter Try.func5, Try.ntmps5
        go_wp2_with fail
        refine HFew0.out.mono ?_
        rintro e w1 ⟨u, rfl, b1, r1⟩
        have HA1 := Lib.hid b1
        have HR1 : Hid (∀ w', AnyLater w1 w' → RRt w' u l) := Lib.hid (fun w' h => r1.later h)
        clear b1 r1
        go_wp2_with fail
        refine (HSm.out _ _ (HR1.out _ (AnyLater.refl _))).mono ?_
        rintro e w2 ⟨rfl, b2⟩
        have HB2 := Lib.hid b2
        clear b2
        go_wp2_with fail
        refine (HSt.out _ _ (HR1.out _ HB2.out)).mono ?_
        rintro e w3 ⟨v7, rfl, b3, o3⟩
        have HB3 := Lib.hid (HB2.out.trans b3)
        have HR7 : Hid (∀ w', AnyLater w3 w' → RI w' v7 s) := Lib.hid (fun w' h => o3.rn.later h)
        obtain ⟨A7, c7, rfl, k7⟩ := o3.form
        rw [HN.out] at k7 HR7 ⊢
        clear b3 o3
        go_wp2_with fail
        refine (HFw.out _ _ (HR1.out _ HB3.out)).mono ?_
        rintro e w4 ⟨u24, rfl, b4, r4⟩
        have HB4 := Lib.hid (And.intro b4 r4)
        clear b4 r4
        go_wp2_with fail
        refine (HIns.out _ _ HB4.out.2).mono ?_
        rintro e w5 ⟨v8, rfl, b5, r5⟩
        have HB5 := Lib.hid (HB4.out.1.trans b5)
        have HR8 : Hid (∀ w', AnyLater w5 w' → RRt w' v8 []) := Lib.hid (fun w' h => r5.later h)
        obtain ⟨A8, c8, rfl, _⟩ := r5.1
        simp only [List.length_nil] at *
        clear b5 r5
        go_wp2_with fail
        refine (HFw.out _ _ (HR1.out _ (HB3.out.trans HB5.out))).mono ?_
        rintro e w6 ⟨u32, rfl, b6, r6⟩
        have HB6 := Lib.hid (And.intro b6 r6)
        clear b6 r6
        go_wp2_with fail
        refine (HDel.out _ _ HB6.out.2).mono ?_
        rintro e w7 ⟨v10, rfl, b7, r7⟩
        have HB7 := Lib.hid (HB6.out.1.trans b7)
        have HR10 : Hid (∀ w', AnyLater w7 w' → RRt w' v10 []) := Lib.hid (fun w' h => r7.later h)
        obtain ⟨A10, c10, rfl, _⟩ := r7.1
        simp only [List.length_nil] at *
        clear b7 r7
        go_wp2_with fail
        refine (HLv.out _).mono ?_
        rintro e w8 ⟨rfl, b8⟩
        have HA8 := Lib.hid (HA1.out.trans (HB3.out.trans (HB5.out.trans (HB7.out.trans b8))))
        clear b8
        go_wp2_with fail
        go_ret
        exact ⟨rfl, HA8.out⟩
      · rw [if_neg hlim] at hM1
        obtain ⟨rfl, rfl⟩ : ofR (insL s a k) = M1 ∧ 0 = c1 := ⟨(Prod.mk.inj hM1).1, (Prod.mk.inj hM1).2⟩
        have hsr : sR (ofR (insL s a k)) = insL s a k := sR_of (ins_good hgS) (by omega)
        have hAI : ∀ {w : World} {u : Value}, RRt w u (ofR (insL s a k)) → Asks w u (ofR (insL s a k)) := fun h => ⟨h, nums_of (ins_good hgS) (by omega), HIM.out⟩
        have HLen := Lib.hid (fun (w : World) u (h : RRt w u (ofR (insL s a k))) => T.len (w := w) (v := u) _ (m + k) (by rw [hsr, hil, hn]) (hAI h))
        have HDel2 := Lib.hid (fun (w : World) u (h : RRt w u (ofR (insL s a k))) => T.del (w := w) (v := u) _ (ofR s) a k 0 (by unfold delR; rw [hsr, if_neg (by omega), del_ins (by omega) (by omega) (by omega)]) (hAI h) hf hq)
        have HI1 := Lib.hid hil
        rw [hn] at h4 hlim hle
        have e3 : decide (16777216 - (m : Int) < (k : Int)) = false := decide_eq_false hlim
        clear hM1 hsr hAI T hgS hf hq hout hil
        by_cases hbad : (m : Int) - (a : Int) < (k : Int)
        · rw [if_pos (by rw [hn]; omega)] at hM2
          obtain ⟨rfl, rfl⟩ : [] = M2 ∧ 1 = c2 := ⟨(Prod.mk.inj hM2).1, (Prod.mk.inj hM2).2⟩
          clear hM2 hn
          by_cases hbig : 1000 < k
          · have g1 : (1000 : Int) < (k : Int) := by omega
            go_enter Try.func5, Try.ntmps5
            go_wp2_with fail
            refine HFew0.out.mono ?_
            rintro e w1 ⟨u, rfl, b1, r1⟩
            have HA1 := Lib.hid b1
            have HR1 : Hid (∀ w', AnyLater w1 w' → RRt w' u l) := Lib.hid (fun w' h => r1.later h)
            clear b1 r1
            go_wp2_with fail
            refine (HSm.out _ _ (HR1.out _ (AnyLater.refl _))).mono ?_
            rintro e w2 ⟨rfl, b2⟩
            have HB2 := Lib.hid b2
            clear b2
            go_wp2_with fail
            refine (HSt.out _ _ (HR1.out _ HB2.out)).mono ?_
            rintro e w3 ⟨v7, rfl, b3, o3⟩
            have HB3 := Lib.hid (HB2.out.trans b3)
            have HR7 : Hid (∀ w', AnyLater w3 w' → RI w' v7 s) := Lib.hid (fun w' h => o3.rn.later h)
            obtain ⟨A7, c7, rfl, k7⟩ := o3.form
            rw [HN.out] at k7 HR7 ⊢
            clear b3 o3
            go_wp2_with fail
            refine (HFw.out _ _ (HR1.out _ HB3.out)).mono ?_
            rintro e w4 ⟨u24, rfl, b4, r4⟩
            have HB4 := Lib.hid (And.intro b4 r4)
            clear b4 r4
            go_wp2_with fail
            refine (HIns.out _ _ HB4.out.2).mono ?_
            rintro e w5 ⟨v8, rfl, b5, r5⟩
            have HB5 := Lib.hid (HB4.out.1.trans b5)
            have HR8 : Hid (∀ w', AnyLater w5 w' → RRt w' v8 (ofR (insL s a k))) := Lib.hid (fun w' h => r5.later h)
            skip
            clear b5 r5
            go_wp2_with fail
            refine (HFw.out _ _ (HR1.out _ (HB3.out.trans HB5.out))).mono ?_
            rintro e w6 ⟨u32, rfl, b6, r6⟩
            have HB6 := Lib.hid (And.intro b6 r6)
            clear b6 r6
            go_wp2_with fail
            refine (HDel.out _ _ HB6.out.2).mono ?_
            rintro e w7 ⟨v10, rfl, b7, r7⟩
            have HB7 := Lib.hid (HB6.out.1.trans b7)
            have HR10 : Hid (∀ w', AnyLater w7 w' → RRt w' v10 []) := Lib.hid (fun w' h => r7.later h)
            obtain ⟨A10, c10, rfl, _⟩ := r7.1
            simp only [List.length_nil] at *
            clear b7 r7
            have HBz : Hid (AnyLater w7 w7) := Lib.hid (AnyLater.refl w7)
            go_wp2_with fail
            refine (HLen.out _ _ (HR8.out _ (HB7.out.trans HBz.out))).mono ?_
            rintro e w8 ⟨rfl, b8⟩
            have HB8 := Lib.hid (HBz.out.trans b8)
            clear b8
            go_wp2_with fail
            refine (HLv.out _).mono ?_
            rintro e w9 ⟨rfl, b9⟩
            have HA9 := Lib.hid (HA1.out.trans (HB3.out.trans (HB5.out.trans (HB7.out.trans (HB8.out.trans b9)))))
            clear b9
            go_wp2_with fail
            go_ret
            exact ⟨rfl, HA9.out⟩
          · have g1 : decide ((1000 : Int) < (k : Int)) = false := decide_eq_false (by omega)
            have HIL : Hid ((insL s a k).length ≤ 90000) := Lib.hid (by rw [HI1.out, HN.out]; omega)
            go_enter Try.func5, Try.ntmps5
            go_wp2_with fail
            refine HFew0.out.mono ?_
            rintro e w1 ⟨u, rfl, b1, r1⟩
            have HA1 := Lib.hid b1
            have HR1 : Hid (∀ w', AnyLater w1 w' → RRt w' u l) := Lib.hid (fun w' h => r1.later h)
            clear b1 r1
            go_wp2_with fail
            refine (HSm.out _ _ (HR1.out _ (AnyLater.refl _))).mono ?_
            rintro e w2 ⟨rfl, b2⟩
            have HB2 := Lib.hid b2
            clear b2
            go_wp2_with fail
            refine (HSt.out _ _ (HR1.out _ HB2.out)).mono ?_
            rintro e w3 ⟨v7, rfl, b3, o3⟩
            have HB3 := Lib.hid (HB2.out.trans b3)
            have HR7 : Hid (∀ w', AnyLater w3 w' → RI w' v7 s) := Lib.hid (fun w' h => o3.rn.later h)
            obtain ⟨A7, c7, rfl, k7⟩ := o3.form
            rw [HN.out] at k7 HR7 ⊢
            clear b3 o3
            go_wp2_with fail
            refine (HFw.out _ _ (HR1.out _ HB3.out)).mono ?_
            rintro e w4 ⟨u24, rfl, b4, r4⟩
            have HB4 := Lib.hid (And.intro b4 r4)
            clear b4 r4
            go_wp2_with fail
            refine (HIns.out _ _ HB4.out.2).mono ?_
            rintro e w5 ⟨v8, rfl, b5, r5⟩
            have HB5 := Lib.hid (HB4.out.1.trans b5)
            have HR8 : Hid (∀ w', AnyLater w5 w' → RRt w' v8 (ofR (insL s a k))) := Lib.hid (fun w' h => r5.later h)
            skip
            clear b5 r5
            go_wp2_with fail
            refine (HFw.out _ _ (HR1.out _ (HB3.out.trans HB5.out))).mono ?_
            rintro e w6 ⟨u32, rfl, b6, r6⟩
            have HB6 := Lib.hid (And.intro b6 r6)
            clear b6 r6
            go_wp2_with fail
            refine (HDel.out _ _ HB6.out.2).mono ?_
            rintro e w7 ⟨v10, rfl, b7, r7⟩
            have HB7 := Lib.hid (HB6.out.1.trans b7)
            have HR10 : Hid (∀ w', AnyLater w7 w' → RRt w' v10 []) := Lib.hid (fun w' h => r7.later h)
            obtain ⟨A10, c10, rfl, _⟩ := r7.1
            simp only [List.length_nil] at *
            clear b7 r7
            have HBz : Hid (AnyLater w7 w7) := Lib.hid (AnyLater.refl w7)
            go_wp2_with fail
            refine (HDel2.out _ _ (HR8.out _ (HB7.out.trans HBz.out))).mono ?_
            rintro e w8 ⟨v12, rfl, b8, r8⟩
            have HB8 := Lib.hid (HBz.out.trans b8)
            have HR12 : Hid (∀ w', AnyLater w8 w' → RRt w' v12 (ofR s)) := Lib.hid (fun w' h => r8.later h)
            clear b8 r8
            go_wp2_with fail
            refine (refIns_any _ s a k _ (HR7.out _ (HB5.out.trans (HB7.out.trans HB8.out))) (by rw [HN.out]; omega) (by rw [HN.out]; omega) (by omega)).mono ?_
            rintro e w9 ⟨u143, rfl, b9, o9⟩
            have HB9 := Lib.hid (And.intro (HB8.out.trans b9) o9.rn)
            have HB89 := Lib.hid b9
            clear b9 o9
            go_wp2_with fail
            refine (of_any _ _ _ HB9.out.2 HIL.out).mono ?_
            rintro e w10 ⟨u144, rfl, b10, o10⟩
            have HB10 := Lib.hid (And.intro (HB9.out.1.trans b10) o10.typed)
            have HB810 := Lib.hid (HB89.out.trans b10)
            clear b10 o10
            go_wp2_with fail
            refine (HSame.out _ _ _ _ (HR8.out _ (HB7.out.trans HB10.out.1)) HB10.out.2 (Nat.le_trans HIM.out (by decide))).mono ?_
            rintro e w11 ⟨rfl, b11⟩
            have HB11 := Lib.hid (HB10.out.1.trans b11)
            have HB811 := Lib.hid (HB810.out.trans b11)
            clear b11
            go_wp2_with fail
            refine (of_any _ _ _ (HR7.out _ (HB5.out.trans (HB7.out.trans HB11.out))) (by rw [HN.out]; omega)).mono ?_
            rintro e w12 ⟨u153, rfl, b12, o12⟩
            have HB12 := Lib.hid (And.intro b12 o12.typed)
            clear b12 o12
            go_wp2_with fail
            refine (HSame.out _ _ _ _ (HR12.out _ (HB811.out.trans HB12.out.1)) HB12.out.2 HOS.out).mono ?_
            rintro e w13 ⟨rfl, b13⟩
            have HB13 := Lib.hid (HB11.out.trans (HB12.out.1.trans b13))
            clear b13
            go_wp2_with fail
            refine (HLv.out _).mono ?_
            rintro e w14 ⟨rfl, b14⟩
            have HA14 := Lib.hid (HA1.out.trans (HB3.out.trans (HB5.out.trans (HB7.out.trans (HB13.out.trans b14)))))
            clear b14
            go_wp2_with fail
            go_ret
            exact ⟨rfl, HA14.out⟩
        · rw [if_neg (by rw [hn]; omega)] at hM2
          obtain ⟨rfl, rfl⟩ : ofR (delL s a k) = M2 ∧ 0 = c2 := ⟨(Prod.mk.inj hM2).1, (Prod.mk.inj hM2).2⟩
          have hb2 : decide ((m : Int) - (a : Int) < (k : Int)) = false := decide_eq_false hbad
          have hak : a + k ≤ m := by omega
          have HDM : Hid ((ofR (delL s a k)).length ≤ 90000) := Lib.hid (by
            have := ofR_length (delL s a k)
            unfold delL at this ⊢
            rw [List.length_append, List.length_take, List.length_drop] at this
            omega)
          clear hM2 hn
          by_cases hbig : 1000 < k
          · have g1 : (1000 : Int) < (k : Int) := by omega
            go_enter Try.func5, Try.ntmps5
            go_wp2_with fail
            refine HFew0.out.mono ?_
            rintro e w1 ⟨u, rfl, b1, r1⟩
            have HA1 := Lib.hid b1
            have HR1 : Hid (∀ w', AnyLater w1 w' → RRt w' u l) := Lib.hid (fun w' h => r1.later h)
            clear b1 r1
            go_wp2_with fail
            refine (HSm.out _ _ (HR1.out _ (AnyLater.refl _))).mono ?_
            rintro e w2 ⟨rfl, b2⟩
            have HB2 := Lib.hid b2
            clear b2
            go_wp2_with fail
            refine (HSt.out _ _ (HR1.out _ HB2.out)).mono ?_
            rintro e w3 ⟨v7, rfl, b3, o3⟩
            have HB3 := Lib.hid (HB2.out.trans b3)
            have HR7 : Hid (∀ w', AnyLater w3 w' → RI w' v7 s) := Lib.hid (fun w' h => o3.rn.later h)
            obtain ⟨A7, c7, rfl, k7⟩ := o3.form
            rw [HN.out] at k7 HR7 ⊢
            clear b3 o3
            go_wp2_with fail
            refine (HFw.out _ _ (HR1.out _ HB3.out)).mono ?_
            rintro e w4 ⟨u24, rfl, b4, r4⟩
            have HB4 := Lib.hid (And.intro b4 r4)
            clear b4 r4
            go_wp2_with fail
            refine (HIns.out _ _ HB4.out.2).mono ?_
            rintro e w5 ⟨v8, rfl, b5, r5⟩
            have HB5 := Lib.hid (HB4.out.1.trans b5)
            have HR8 : Hid (∀ w', AnyLater w5 w' → RRt w' v8 (ofR (insL s a k))) := Lib.hid (fun w' h => r5.later h)
            skip
            clear b5 r5
            go_wp2_with fail
            refine (HFw.out _ _ (HR1.out _ (HB3.out.trans HB5.out))).mono ?_
            rintro e w6 ⟨u32, rfl, b6, r6⟩
            have HB6 := Lib.hid (And.intro b6 r6)
            clear b6 r6
            go_wp2_with fail
            refine (HDel.out _ _ HB6.out.2).mono ?_
            rintro e w7 ⟨v10, rfl, b7, r7⟩
            have HB7 := Lib.hid (HB6.out.1.trans b7)
            have HR10 : Hid (∀ w', AnyLater w7 w' → RRt w' v10 (ofR (delL s a k))) := Lib.hid (fun w' h => r7.later h)
            skip
            clear b7 r7
            obtain ⟨A1, x1, hr1, hup⟩ := (HR7.out w7 (HB5.out.trans HB7.out)).uptoI a (by rw [HN.out]; omega)
            obtain ⟨u92, hr2, hcut0⟩ := (HR7.out w7 (HB5.out.trans HB7.out)).cutI (a + k) (by rw [HN.out]; omega)
            have hcut : ∀ w', (Instr.sliceAt 26 (.slice A7 m c7) (some (.int .i64 ((a : Int) + (k : Int)))) none none).run Try.prog w' = .ok u92 w' := fun w' => by have := hcut0 w'; rwa [Int.natCast_add] at this
            obtain ⟨u87, w8, k1, k2, k3⟩ := copyI (w := w7.drew) (hr1.later (AnyLater.refl w7).drew) (by rw [List.length_take]; omega)
            obtain ⟨u93, w9, q1, q2, q3⟩ := appN (s := 26) Try.underlying26 info_i64 (by decide) k3 (hr2.later ((AnyLater.refl w7).drew.trans k2)) k2.below.size (by rw [List.length_take, List.length_drop, HN.out]; omega)
            have K1 := Lib.hid k1
            have K2 := Lib.hid q1
            have HW8 := Lib.hid ((AnyLater.refl w7).drew.trans k2)
            have HW9 := Lib.hid ((AnyLater.refl w7).drew.trans (ON.grown k3 (Nat.le_refl _) k2 q3))
            have HOf : Hid (Calls Try.prog 14 #[u93] w9 fun e w' => ∃ v, e = .returned v ∧ AnyLater w9 w' ∧ RRt w' v (ofR (delL s a k))) := Lib.hid ((of_any u93 _ w9 q2.rn (by rw [List.length_append, List.length_take, List.length_drop, HN.out]; omega)).mono fun _ _ ⟨v, h1, h2, h3⟩ => ⟨v, h1, h2, by have := h3.typed; unfold delL; rw [Int.toNat_natCast, show ((a : Int) + (k : Int)).toNat = a + k by omega]; exact this⟩)
            clear k1 k2 k3 q1 q2 q3 hr1 hr2 hcut0
            go_wp2_with fail
            apply wp_region_chain 19 [(1, .slice (some ⟨w7.heap.size, 0, none⟩) 0 0), (5, u87), (11, u93), (12, undef), (13, .bool true)] [⟨12, 94, fun u x => RRt x u (ofR (delL s a k))⟩] (AnyLater w7) (stE w7 w8 w9 (ofR (delL s a k))) (by kernel_rfl) (by kernel_rfl) (by kernel_rfl) (by simp) (by kernel_rfl) (AnyLater.refl w7).drew (fun _ => rfl)
            case hlex =>
              intro U hU
              simp only [actFrom, actOp, List.lookup, Nat.reduceBEq, Nat.reduceLeDiff, Nat.reduceAdd, if_false, if_true]
              repeat (go_big_quiet_step (fail))
              exact wpQuiet_nil rfl
            case hact =>
              intro i hi o ho
              have hj3 : i = 0 ∨ i = 1 ∨ i = 2 ∨ i = 3 ∨ i = 4 := by simp at hi; omega
              rcases hj3 with rfl | rfl | rfl | rfl | rfl
              · cases ho
                refine ⟨rfl, fun g x hC hS => ?_⟩
                obtain rfl : x = w7.drew := hS
                exact chain_value (w' := w7.drew.alloc (.cells #[] 3)) (by simp [go_sem, execOp]) ⟨hC.alloc _, .inr rfl, rfl⟩
              · cases ho
                refine ⟨rfl, fun g x hC hS => ?_⟩
                obtain rfl : x = w7.drew.alloc (.cells #[] 3) := hS
                simp only [fillAll, Act.put, List.setIfInBounds_toArray, List.set_cons_zero, List.set_cons_succ]
                exact chain_append _ _ _ _ rfl _ _ rfl rfl K1.out ⟨HW8.out, .inr rfl, rfl⟩
              · cases ho
                refine ⟨rfl, fun g x hC hS => ?_⟩
                obtain rfl : x = w8 := hS
                simp only [fillAll, Act.put, List.setIfInBounds_toArray, List.set_cons_zero, List.set_cons_succ]
                exact chain_append _ _ _ _ rfl _ _ rfl rfl K2.out ⟨HW9.out, .inr rfl, rfl⟩
              · cases ho
                refine ⟨rfl, fun g x hC hS => ?_⟩
                obtain rfl : x = w9 := hS
                simp only [fillAll, Act.put, List.setIfInBounds_toArray, List.set_cons_zero, List.set_cons_succ]
                refine chain_go ?_ (HOf.out.mono fun e w'' ⟨u, h1, h2, h3⟩ => ⟨u, h1, hC.trans h2, .inl ⟨_, List.mem_cons_self, rfl⟩, (show RRt w'' (updG g 12 u 12) _ by simpa [updG] using h3)⟩)
                simp [go_sem, execOp]
              · cases ho
                refine ⟨rfl, fun g x hC hS => ?_⟩
                have hS' : RRt x (g 12) (ofR (delL s a k)) := hS
                simp only [fillAll, Act.put, List.setIfInBounds_toArray, List.set_cons_zero, List.set_cons_succ]
                refine chain_go ?_ ((HSame.out x _ _ _ (HR10.out x hC) hS' HDM.out).mono fun e w'' ⟨h1, h2⟩ => ⟨_, h1, hC.trans h2, .inr rfl, trivial⟩)
                simp [go_sem, execOp]
            case htail =>
              intro g wz hC hS
              have HBz := Lib.hid hC
              clear hS hC
              simp only [fillAll, Act.put, List.setIfInBounds_toArray, List.set_cons_zero, List.set_cons_succ, List.drop_succ_cons, List.drop_zero, List.drop_nil]
              clear hup hcut
              go_wp2_with fail
              refine (HLen.out _ _ (HR8.out _ (HB7.out.trans HBz.out))).mono ?_
              rintro e w8 ⟨rfl, b8⟩
              have HB8 := Lib.hid (HBz.out.trans b8)
              clear b8
              go_wp2_with fail
              refine (HLv.out _).mono ?_
              rintro e w9 ⟨rfl, b9⟩
              have HA9 := Lib.hid (HA1.out.trans (HB3.out.trans (HB5.out.trans (HB7.out.trans (HB8.out.trans b9)))))
              clear b9
              go_wp2_with fail
              go_ret
              exact ⟨rfl, HA9.out⟩
          · have g1 : decide ((1000 : Int) < (k : Int)) = false := decide_eq_false (by omega)
            have HIL : Hid ((insL s a k).length ≤ 90000) := Lib.hid (by rw [HI1.out, HN.out]; omega)
            go_enter Try.func5, Try.ntmps5
            go_wp2_with fail
            refine HFew0.out.mono ?_
            rintro e w1 ⟨u, rfl, b1, r1⟩
            have HA1 := Lib.hid b1
            have HR1 : Hid (∀ w', AnyLater w1 w' → RRt w' u l) := Lib.hid (fun w' h => r1.later h)
            clear b1 r1
            go_wp2_with fail
            refine (HSm.out _ _ (HR1.out _ (AnyLater.refl _))).mono ?_
            rintro e w2 ⟨rfl, b2⟩
            have HB2 := Lib.hid b2
            clear b2
            go_wp2_with fail
            refine (HSt.out _ _ (HR1.out _ HB2.out)).mono ?_
            rintro e w3 ⟨v7, rfl, b3, o3⟩
            have HB3 := Lib.hid (HB2.out.trans b3)
            have HR7 : Hid (∀ w', AnyLater w3 w' → RI w' v7 s) := Lib.hid (fun w' h => o3.rn.later h)
            obtain ⟨A7, c7, rfl, k7⟩ := o3.form
            rw [HN.out] at k7 HR7 ⊢
            clear b3 o3
            go_wp2_with fail
            refine (HFw.out _ _ (HR1.out _ HB3.out)).mono ?_
            rintro e w4 ⟨u24, rfl, b4, r4⟩
            have HB4 := Lib.hid (And.intro b4 r4)
            clear b4 r4
            go_wp2_with fail
            refine (HIns.out _ _ HB4.out.2).mono ?_
            rintro e w5 ⟨v8, rfl, b5, r5⟩
            have HB5 := Lib.hid (HB4.out.1.trans b5)
            have HR8 : Hid (∀ w', AnyLater w5 w' → RRt w' v8 (ofR (insL s a k))) := Lib.hid (fun w' h => r5.later h)
            skip
            clear b5 r5
            go_wp2_with fail
            refine (HFw.out _ _ (HR1.out _ (HB3.out.trans HB5.out))).mono ?_
            rintro e w6 ⟨u32, rfl, b6, r6⟩
            have HB6 := Lib.hid (And.intro b6 r6)
            clear b6 r6
            go_wp2_with fail
            refine (HDel.out _ _ HB6.out.2).mono ?_
            rintro e w7 ⟨v10, rfl, b7, r7⟩
            have HB7 := Lib.hid (HB6.out.1.trans b7)
            have HR10 : Hid (∀ w', AnyLater w7 w' → RRt w' v10 (ofR (delL s a k))) := Lib.hid (fun w' h => r7.later h)
            skip
            clear b7 r7
            obtain ⟨A1, x1, hr1, hup⟩ := (HR7.out w7 (HB5.out.trans HB7.out)).uptoI a (by rw [HN.out]; omega)
            obtain ⟨u92, hr2, hcut0⟩ := (HR7.out w7 (HB5.out.trans HB7.out)).cutI (a + k) (by rw [HN.out]; omega)
            have hcut : ∀ w', (Instr.sliceAt 26 (.slice A7 m c7) (some (.int .i64 ((a : Int) + (k : Int)))) none none).run Try.prog w' = .ok u92 w' := fun w' => by have := hcut0 w'; rwa [Int.natCast_add] at this
            obtain ⟨u87, w8, k1, k2, k3⟩ := copyI (w := w7.drew) (hr1.later (AnyLater.refl w7).drew) (by rw [List.length_take]; omega)
            obtain ⟨u93, w9, q1, q2, q3⟩ := appN (s := 26) Try.underlying26 info_i64 (by decide) k3 (hr2.later ((AnyLater.refl w7).drew.trans k2)) k2.below.size (by rw [List.length_take, List.length_drop, HN.out]; omega)
            have K1 := Lib.hid k1
            have K2 := Lib.hid q1
            have HW8 := Lib.hid ((AnyLater.refl w7).drew.trans k2)
            have HW9 := Lib.hid ((AnyLater.refl w7).drew.trans (ON.grown k3 (Nat.le_refl _) k2 q3))
            have HOf : Hid (Calls Try.prog 14 #[u93] w9 fun e w' => ∃ v, e = .returned v ∧ AnyLater w9 w' ∧ RRt w' v (ofR (delL s a k))) := Lib.hid ((of_any u93 _ w9 q2.rn (by rw [List.length_append, List.length_take, List.length_drop, HN.out]; omega)).mono fun _ _ ⟨v, h1, h2, h3⟩ => ⟨v, h1, h2, by have := h3.typed; unfold delL; rw [Int.toNat_natCast, show ((a : Int) + (k : Int)).toNat = a + k by omega]; exact this⟩)
            clear k1 k2 k3 q1 q2 q3 hr1 hr2 hcut0
            go_wp2_with fail
            apply wp_region_chain 19 [(1, .slice (some ⟨w7.heap.size, 0, none⟩) 0 0), (5, u87), (11, u93), (12, undef), (13, .bool true)] [⟨12, 94, fun u x => RRt x u (ofR (delL s a k))⟩] (AnyLater w7) (stE w7 w8 w9 (ofR (delL s a k))) (by kernel_rfl) (by kernel_rfl) (by kernel_rfl) (by simp) (by kernel_rfl) (AnyLater.refl w7).drew (fun _ => rfl)
            case hlex =>
              intro U hU
              simp only [actFrom, actOp, List.lookup, Nat.reduceBEq, Nat.reduceLeDiff, Nat.reduceAdd, if_false, if_true]
              repeat (go_big_quiet_step (fail))
              exact wpQuiet_nil rfl
            case hact =>
              intro i hi o ho
              have hj3 : i = 0 ∨ i = 1 ∨ i = 2 ∨ i = 3 ∨ i = 4 := by simp at hi; omega
              rcases hj3 with rfl | rfl | rfl | rfl | rfl
              · cases ho
                refine ⟨rfl, fun g x hC hS => ?_⟩
                obtain rfl : x = w7.drew := hS
                exact chain_value (w' := w7.drew.alloc (.cells #[] 3)) (by simp [go_sem, execOp]) ⟨hC.alloc _, .inr rfl, rfl⟩
              · cases ho
                refine ⟨rfl, fun g x hC hS => ?_⟩
                obtain rfl : x = w7.drew.alloc (.cells #[] 3) := hS
                simp only [fillAll, Act.put, List.setIfInBounds_toArray, List.set_cons_zero, List.set_cons_succ]
                exact chain_append _ _ _ _ rfl _ _ rfl rfl K1.out ⟨HW8.out, .inr rfl, rfl⟩
              · cases ho
                refine ⟨rfl, fun g x hC hS => ?_⟩
                obtain rfl : x = w8 := hS
                simp only [fillAll, Act.put, List.setIfInBounds_toArray, List.set_cons_zero, List.set_cons_succ]
                exact chain_append _ _ _ _ rfl _ _ rfl rfl K2.out ⟨HW9.out, .inr rfl, rfl⟩
              · cases ho
                refine ⟨rfl, fun g x hC hS => ?_⟩
                obtain rfl : x = w9 := hS
                simp only [fillAll, Act.put, List.setIfInBounds_toArray, List.set_cons_zero, List.set_cons_succ]
                refine chain_go ?_ (HOf.out.mono fun e w'' ⟨u, h1, h2, h3⟩ => ⟨u, h1, hC.trans h2, .inl ⟨_, List.mem_cons_self, rfl⟩, (show RRt w'' (updG g 12 u 12) _ by simpa [updG] using h3)⟩)
                simp [go_sem, execOp]
              · cases ho
                refine ⟨rfl, fun g x hC hS => ?_⟩
                have hS' : RRt x (g 12) (ofR (delL s a k)) := hS
                simp only [fillAll, Act.put, List.setIfInBounds_toArray, List.set_cons_zero, List.set_cons_succ]
                refine chain_go ?_ ((HSame.out x _ _ _ (HR10.out x hC) hS' HDM.out).mono fun e w'' ⟨h1, h2⟩ => ⟨_, h1, hC.trans h2, .inr rfl, trivial⟩)
                simp [go_sem, execOp]
            case htail =>
              intro g wz hC hS
              have HBz := Lib.hid hC
              clear hS hC
              simp only [fillAll, Act.put, List.setIfInBounds_toArray, List.set_cons_zero, List.set_cons_succ, List.drop_succ_cons, List.drop_zero, List.drop_nil]
              clear hup hcut
              go_wp2_with fail
              refine (HDel2.out _ _ (HR8.out _ (HB7.out.trans HBz.out))).mono ?_
              rintro e w8 ⟨v12, rfl, b8, r8⟩
              have HB8 := Lib.hid (HBz.out.trans b8)
              have HR12 : Hid (∀ w', AnyLater w8 w' → RRt w' v12 (ofR s)) := Lib.hid (fun w' h => r8.later h)
              clear b8 r8
              go_wp2_with fail
              refine (refIns_any _ s a k _ (HR7.out _ (HB5.out.trans (HB7.out.trans HB8.out))) (by rw [HN.out]; omega) (by rw [HN.out]; omega) (by omega)).mono ?_
              rintro e w9 ⟨u143, rfl, b9, o9⟩
              have HB9 := Lib.hid (And.intro (HB8.out.trans b9) o9.rn)
              have HB89 := Lib.hid b9
              clear b9 o9
              go_wp2_with fail
              refine (of_any _ _ _ HB9.out.2 HIL.out).mono ?_
              rintro e w10 ⟨u144, rfl, b10, o10⟩
              have HB10 := Lib.hid (And.intro (HB9.out.1.trans b10) o10.typed)
              have HB810 := Lib.hid (HB89.out.trans b10)
              clear b10 o10
              go_wp2_with fail
              refine (HSame.out _ _ _ _ (HR8.out _ (HB7.out.trans HB10.out.1)) HB10.out.2 (Nat.le_trans HIM.out (by decide))).mono ?_
              rintro e w11 ⟨rfl, b11⟩
              have HB11 := Lib.hid (HB10.out.1.trans b11)
              have HB811 := Lib.hid (HB810.out.trans b11)
              clear b11
              go_wp2_with fail
              refine (of_any _ _ _ (HR7.out _ (HB5.out.trans (HB7.out.trans HB11.out))) (by rw [HN.out]; omega)).mono ?_
              rintro e w12 ⟨u153, rfl, b12, o12⟩
              have HB12 := Lib.hid (And.intro b12 o12.typed)
              clear b12 o12
              go_wp2_with fail
              refine (HSame.out _ _ _ _ (HR12.out _ (HB811.out.trans HB12.out.1)) HB12.out.2 HOS.out).mono ?_
              rintro e w13 ⟨rfl, b13⟩
              have HB13 := Lib.hid (HB11.out.trans (HB12.out.1.trans b13))
              clear b13
              go_wp2_with fail
              refine (HLv.out _).mono ?_
              rintro e w14 ⟨rfl, b14⟩
              have HA14 := Lib.hid (HA1.out.trans (HB3.out.trans (HB5.out.trans (HB7.out.trans (HB13.out.trans b14)))))
              clear b14
              go_wp2_with fail
              go_ret
              exact ⟨rfl, HA14.out⟩
end Go.Proofs.Ytbegglgekkbcoaa
