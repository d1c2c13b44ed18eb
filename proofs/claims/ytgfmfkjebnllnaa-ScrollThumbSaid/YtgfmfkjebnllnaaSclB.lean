/- scroll: what band's Less and Move are to tell (SSays); on that Shift, Thumb, and the law's lives, by contract. -/
import Derived.Test.YtgfmfkjebnllnaaSclA
import Derived.Test.YtgfmfkjebnllnaaBandD
import Derived.BigQuiet
namespace Go.Proofs.Ytgfmfkjebnllnaa
set_option linter.unusedSimpArgs false
set_option linter.unusedVariables false
set_option linter.unusedSectionVars false
open Go.RowKit

structure SSays : Prop where
  less : ∀ (v v2 : Value) (l l2 : Bands) (w : World), RB w v l → RB w v2 l2 → l.length ≤ 1000 → l2.length ≤ 1000 → Calls Try.prog 22 #[v, v2] w (Told w fun y => inB l y && !inB l2 y)
  move : ∀ (v : Value) (l : Bands) (d f t : Int) (w : World), RB w v l → l.length ≤ 1000 → Calls Try.prog 23 #[v, .int .i64 d, .int .i64 f, .int .i64 t] w (Told w fun y => inB l (y - clampB d) && decide (clampB f ≤ y ∧ y < clampB t))

/-- whether a row of the view was not seen ahead -/
def shB (f t h y : Int) : Bool := decide (0 ≤ y ∧ y < inZ h) && !decide (0 ≤ y - (inZ f - inZ t) ∧ y - (inZ f - inZ t) < inZ h)
theorem inB_all {H : Int} (h : 0 ≤ H ∧ H ≤ 1073741824) (y : Int) : inB [(0, H)] y = decide (0 ≤ y ∧ y < H) := by
  rw [inB_cons, inB_nil, Bool.or_false, decide_eq_decide]
  simp only
  omega
theorem shift_rows {D H y : Int} (hD : -1073741824 ≤ D ∧ D ≤ 1073741824) (h : 0 ≤ H ∧ H ≤ 1073741824) :
    (inB [(0, H)] y && !(inB [(0, H)] (y - clampB D) && decide (clampB 0 ≤ y ∧ y < clampB H))) = (decide (0 ≤ y ∧ y < H) && !decide (0 ≤ y - D ∧ y - D < H)) := by
  have e1 : clampB D = D := by unfold clampB; omega
  have e2 : clampB 0 = 0 := by decide
  have e3 : clampB H = H := by unfold clampB; omega
  rw [e1, e2, e3, inB_all h, inB_all h]
  by_cases k : 0 ≤ y ∧ y < H
  · rw [decide_eq_true k, Bool.and_true]
  · rw [decide_eq_false k, Bool.false_and, Bool.false_and]
def Shifted (W : World) (f t h : Int) (e : Ending) (w' : World) : Prop := ∃ v T, e = .returned (.tuple #[.int .i64 (inZ f - inZ t), v]) ∧ AnyLater W w' ∧ RB w' v T ∧ GoodL T ∧ T.length ≤ 100 ∧ ∀ y, inB T y = shB f t h y

set_option maxRecDepth 100000 in
set_option maxHeartbeats 1600000 in
theorem shift_any (S : SSays) (f t h : Int) (w : World) : Calls Try.prog 15 #[.int .i64 f, .int .i64 t, .int .i64 h] w (Shifted w f t h) := by
  obtain ⟨f1, f2⟩ := inZ_in f
  obtain ⟨t1, t2⟩ := inZ_in t
  obtain ⟨h1, h2⟩ := inZ_in h
  obtain ⟨F, hF⟩ : ∃ z, inZ f = z := ⟨_, rfl⟩
  obtain ⟨T, hT⟩ : ∃ z, inZ t = z := ⟨_, rfl⟩
  obtain ⟨H, hH⟩ : ∃ z, inZ h = z := ⟨_, rfl⟩
  rw [hF] at f1 f2
  rw [hT] at t1 t2
  rw [hH] at h1 h2
  have HE : Hid (∀ v l w', AnyLater w w' → RB w' v l → GoodL l → l.length ≤ 100 → (∀ y, inB l y = (decide (0 ≤ y ∧ y < H) && !decide (0 ≤ y - (F - T) ∧ y - (F - T) < H))) → Shifted w f t h (.returned (.tuple #[.int .i64 (F - T), v])) w') := Lib.hid (by
    intro v l w' k1 k2 k3 k5 k4
    exact ⟨v, l, by rw [hF, hT], k1, k2, k3, k5, fun y => by rw [k4 y]; unfold shB; rw [hF, hT, hH]⟩)
  have HS := Lib.hid S
  have HR := Lib.hid (fun y => shift_rows (y := y) (D := F - T) (H := H) (by omega) ⟨h1, h2⟩)
  go_enter Try.func15, Try.ntmps15
  go_wp2_with (go_at_call 20; refine (sbound_any _ _ _ (by assumption)).mono ?_; rintro e w' ⟨rfl, rfl⟩)
  clear hF hT hH
  first | refine settle_wp (fun wS => AnyLater w wS ∧ wS.heap[w.heap.size]? = some (.cells #[.int .i64 0, .int .i64 H] 39)) ?_ ?_ | refine settle_calls (fun wS => AnyLater w wS ∧ wS.heap[w.heap.size]? = some (.cells #[.int .i64 0, .int .i64 H] 39)) ?_ ?_
  · refine ⟨?_, ?_⟩
    · repeat' (first | with_reducible assumption | with_reducible exact AnyLater.refl _ | with_reducible apply AnyLater.setCell | with_reducible apply AnyLater.later | with_reducible apply AnyLater.drewN | with_reducible apply AnyLater.drew | with_reducible apply AnyLater.alloc | ((try simp only [World.size_alloc, World.size_setCell, World.size_drew]); (try dsimp only); omega))
    · ((repeat (first | with_reducible assumption | ((with_reducible apply heap_new); (try simp only [World.size_alloc, World.size_setCell, World.size_drew, World.heap_drewN]); done) | ((with_reducible apply heap_new); (try simp only [World.size_alloc, World.size_setCell, World.size_drew, World.heap_drewN]); omega) | (with_reducible refine heap_old (by (try simp only [World.size_alloc, World.size_setCell, World.size_drew, World.heap_drewN]); omega) ?_) | (with_reducible refine heap_drew ?_) | (with_reducible refine heap_far (by omega) ?_) | (with_reducible apply heap_at))); all_goals rfl)
  rintro w1 ⟨b_w1, s0_w1⟩
  have a_w1 := b_w1
  have r0_w1 := own_row s0_w1
  have f0_w1 := own_free s0_w1
  have l0_w1 := own_lt s0_w1
  have z_w1 := b_w1.below.size
  have hr := RB.block (cap := 1) (l := [(0, H)]) s0_w1 rfl (show 1 ≤ 1 by decide)
  have HB := Lib.hid hr
  refine (HS.out.move _ [(0, H)] _ _ _ w1 hr (show 1 ≤ 1000 by decide)).mono ?_
  rintro e w2 ⟨v2, T2, rfl, b_w2, r2, g2, y2⟩
  have l2 := len_move g2 y2
  have H2 := Lib.hid (And.intro r2 (And.intro g2 (And.intro y2 (And.intro l2 (And.intro (HB.out.later b_w2) (b_w1.trans b_w2))))))
  clear hr r2 g2 y2 l2
  go_wp2_with fail
  refine (HS.out.less _ _ [(0, H)] T2 w2 H2.out.2.2.2.2.1 H2.out.1 (show 1 ≤ 1000 by decide) (by have := H2.out.2.2.2.1; simp only [List.length_cons, List.length_nil] at this; omega)).mono ?_
  rintro e w3 ⟨v3, T3, rfl, b_w3, r3, g3, y3⟩
  have HZ := Lib.hid (HE.out v3 T3 w3 (H2.out.2.2.2.2.2.trans b_w3) r3 g3 (by have := len_not g3 y3; have := H2.out.2.2.2.1; simp only [List.length_cons, List.length_nil] at *; omega) (fun y => (y3 y).trans (by show (inB [(0, H)] y && !inB T2 y) = _; rw [H2.out.2.2.1 y]; exact HR.out y)))
  clear r3 g3 y3
  go_wp2_with fail
  refine bodyPost_ret (v := .tuple #[.int .i64 (F - T), v3]) (by simp [results, Try.results15, go_sem]) rfl ?_
  exact HZ.out

theorem lives_row (y : Int) : shB 10 13 20 y = inB [(17, 20)] y := by
  have e1 : inZ 10 = 10 := by decide
  have e2 : inZ 13 = 13 := by decide
  have e3 : inZ 20 = 20 := by decide
  unfold shB
  rw [e1, e2, e3, inB_cons, inB_nil, Bool.or_false, Bool.eq_iff_iff]
  simp only [Bool.and_eq_true, Bool.not_eq_true', decide_eq_true_eq, decide_eq_false_iff_not]
  omega
theorem good_tail : GoodL [(17, 20)] := ⟨by intro b hb; obtain rfl := List.mem_singleton.1 hb; omega, List.pairwise_singleton _ _⟩
set_option maxRecDepth 100000 in
set_option maxHeartbeats 1600000 in
theorem sclives_any (S : SSays) (w : World) : Calls Try.prog 13 #[] w fun e w' => e = .returned (.bool true) ∧ AnyLater w w' := by
  have gb := guard_band
  have nb := eqlBand
  have HS := Lib.hid (shift_any S 10 13 20 w)
  have HC := Lib.hid (fun w' => sclamp_any 50 30 20 10 w' (by decide))
  clear S
  go_enter Try.func13, Try.ntmps13
  go_wp2_with fail
  refine HS.out.mono ?_
  rintro e w1 ⟨v, T, rfl, a_w1, hr, hg, -, hy⟩
  obtain rfl : T = [(17, 20)] := good_unique hg good_tail (fun y => by rw [hy, lives_row])
  rw [show inZ 10 - inZ 13 = -3 by decide]
  obtain ⟨A, cap, rfl, h2, h3⟩ := hr
  obtain ⟨b, off, rfl, hb, hc⟩ := h3 (by decide)
  have c0 : w1.cell? ⟨b, off, none⟩ = some (.int .i64 17) := (hc 0 (by decide)).1
  have c1 : w1.cell? ⟨b, off + 1, none⟩ = some (.int .i64 20) := (hc 0 (by decide)).2
  clear hc h3 hy hg h2
  simp only [List.length_cons, List.length_nil, Nat.zero_add] at *
  go_wp2_with (go_at_call 9; refine (HC.out _).mono ?_; rintro e w' ⟨rfl, rfl⟩)
  go_ret
  exact ⟨rfl, by repeat' (first | with_reducible assumption | with_reducible exact AnyLater.refl _ | with_reducible apply AnyLater.setCell | with_reducible apply AnyLater.later | with_reducible apply AnyLater.drewN | with_reducible apply AnyLater.drew | with_reducible apply AnyLater.alloc | ((try simp only [World.size_alloc, World.size_setCell, World.size_drew]); (try dsimp only); omega))⟩

/-! ### Thumb -/
def thumbZ (y t h : Int) : Int × Int := if inZ t ≤ inZ h then (0, inZ h) else (inZ h * stZ y t h / inZ t, inZ h * (stZ y t h + inZ h) / inZ t)
theorem thumbZ_in {y t h : Int} (k : ¬ inZ t ≤ inZ h) : 0 ≤ stZ y t h ∧ stZ y t h + inZ h ≤ inZ t := by
  have h1 := stZ_in y t h
  have h2 := inZ_in h
  unfold mostZ at h1
  rw [if_neg (by omega)] at h1
  omega
set_option maxRecDepth 100000 in
set_option maxHeartbeats 1600000 in
theorem sthumb_any (y t h : Int) (w : World) : Calls Try.prog 19 #[.int .i64 y, .int .i64 t, .int .i64 h] w fun e w' => e = .returned (.agg #[.int .i64 (thumbZ y t h).1, .int .i64 (thumbZ y t h).2]) ∧ AnyLater w w' := by
  obtain ⟨t1, t2⟩ := inZ_in t
  obtain ⟨h1, h2⟩ := inZ_in h
  by_cases k : inZ t ≤ inZ h
  · have e : thumbZ y t h = (0, inZ h) := by unfold thumbZ; rw [if_pos k]
    rw [e]
    clear e
    simp only
    obtain ⟨T, hT⟩ : ∃ z, inZ t = z := ⟨_, rfl⟩
    obtain ⟨H, hH⟩ : ∃ z, inZ h = z := ⟨_, rfl⟩
    rw [hT] at t1 t2 k
    rw [hH] at h1 h2 k
    rw [hH]
    go_enter Try.func19, Try.ntmps19
    go_wp2_with (go_at_call 20; refine (sbound_any _ _ _ (by assumption)).mono ?_; rintro e w' ⟨rfl, rfl⟩)
    refine bodyPost_ret (v := .agg #[.int .i64 0, .int .i64 H]) (by simp [results, Try.results19, go_sem]) rfl ⟨rfl, ?_⟩
    repeat' (first | with_reducible assumption | with_reducible exact AnyLater.refl _ | with_reducible apply AnyLater.setCell | with_reducible apply AnyLater.later | with_reducible apply AnyLater.drewN | with_reducible apply AnyLater.drew | with_reducible apply AnyLater.alloc | ((try simp only [World.size_alloc, World.size_setCell, World.size_drew]); (try dsimp only); omega))
  · have e : thumbZ y t h = (inZ h * stZ y t h / inZ t, inZ h * (stZ y t h + inZ h) / inZ t) := by unfold thumbZ; rw [if_neg k]
    have hs := thumbZ_in (y := y) k
    have hst := stZ_twice y t h
    rw [e]
    clear e
    simp only
    obtain ⟨T, hT⟩ : ∃ z, inZ t = z := ⟨_, rfl⟩
    obtain ⟨H, hH⟩ : ∃ z, inZ h = z := ⟨_, rfl⟩
    obtain ⟨s, hsz⟩ : ∃ z, stZ y t h = z := ⟨_, rfl⟩
    rw [hT, hH, hsz] at hst
    rw [hsz, hH, hT] at hs
    rw [hsz, hT, hH]
    rw [hT] at t1 t2 k
    rw [hH] at h1 h2 k
    obtain ⟨s1, s2⟩ := hs
    clear hsz
    have m1 := prod_in (q := H) (s := s) (by omega) (by omega)
    have m2 := prod_in (q := H) (s := s + H) (by omega) (by omega)
    have m3 := Int.mul_nonneg h1 s1
    have m4 : 0 ≤ H * (s + H) := Int.mul_nonneg h1 (by omega)
    obtain ⟨M, hM⟩ : ∃ z, H * s = z := ⟨_, rfl⟩
    obtain ⟨M', hM'⟩ : ∃ z, H * (s + H) = z := ⟨_, rfl⟩
    rw [hM] at m1 m3
    rw [hM'] at m2 m4
    rw [hM, hM']
    obtain ⟨D, hD⟩ : ∃ z, M / T = z := ⟨_, rfl⟩
    obtain ⟨D', hD'⟩ : ∃ z, M' / T = z := ⟨_, rfl⟩
    rw [hD, hD']
    obtain ⟨m5, m6⟩ := m1
    obtain ⟨m7, m8⟩ := m2
    go_enter Try.func19, Try.ntmps19
    go_wp2_with (first | (go_at_call 20; refine (sbound_any _ _ _ (by assumption)).mono ?_; rintro e w' ⟨rfl, rfl⟩) | (go_at_call 9; refine (sclamp_any _ _ _ _ _ (by assumption)).mono ?_; rintro e w' ⟨rfl, rfl⟩) | (go_at_call 24; refine (sfloor_any _ _ _ _ ⟨by assumption, by omega⟩ (by omega) (by assumption)).mono ?_; rintro e w' ⟨rfl, rfl⟩))
    refine bodyPost_ret (v := .agg #[.int .i64 D, .int .i64 D']) (by simp [results, Try.results19, go_sem]) rfl ⟨rfl, ?_⟩
    repeat' (first | with_reducible assumption | with_reducible exact AnyLater.refl _ | with_reducible apply AnyLater.setCell | with_reducible apply AnyLater.later | with_reducible apply AnyLater.drewN | with_reducible apply AnyLater.drew | with_reducible apply AnyLater.alloc | ((try simp only [World.size_alloc, World.size_setCell, World.size_drew]); (try dsimp only); omega))
end Go.Proofs.Ytgfmfkjebnllnaa
