/- glyph: Bold, Large, Wide and Of of the program, by contract. -/
import Derived.Test.YtbgpjfiabefajaaGlyT
import Derived.Test.YtbgpjfiabefajaaGlyD
namespace Go.Proofs.Ytbgpjfiabefajaa
set_option linter.unusedSimpArgs false
set_option linter.unusedVariables false
set_option linter.unusedSectionVars false
open Go.RowKit

theorem boldP_of {g b : GM} (hg : goodG g = true) (h : MadeP (g.w + 1) g.h (fun x y => hasB g x y || hasB g ((x : Int) - 1) y) b) : BoldP g b where
  ok := h.ok
  yes := fun _ hw => by
    obtain ⟨g1, g2, g3, g4, g5, -⟩ := goodG_in hg
    obtain ⟨e1, e2, e3, e4⟩ := h.yes (by omega) (by omega) g3 g4
    refine ⟨e1, e2, e3, fun x y => ?_⟩
    rw [e4]
    by_cases q : 0 ≤ x ∧ x < g.w + 1 ∧ 0 ≤ y ∧ y < g.h
    · rw [decide_eq_true q, Bool.true_and]
      have ex : ((x.toNat : Nat) : Int) = x := by omega
      have ey : ((y.toNat : Nat) : Int) = y := by omega
      simp only [ex, ey]
      by_cases q0 : 0 < x
      · rw [decide_eq_true q0, Bool.true_and]
      · rw [decide_eq_false q0, Bool.false_and, hasB_out (g := g) (x := x - 1) (by omega)]
    · rw [decide_eq_false q, Bool.false_and, hasB_out (g := g) (x := x) (by omega), Bool.false_or]
      by_cases q0 : 0 < x
      · rw [hasB_out (g := g) (x := x - 1) (by omega), Bool.and_false]
      · rw [decide_eq_false q0, Bool.false_and]
  no := fun hn => h.no (fun q => hn ⟨hg, by omega⟩)
theorem largeP_of {g b : GM} (hg : goodG g = true) (h : MadeP (2 * g.w) (2 * g.h) (fun x y => hasB g ((x / 2 : Nat) : Int) ((y / 2 : Nat) : Int)) b) : LargeP g b where
  ok := h.ok
  yes := fun _ hw hh => by
    obtain ⟨g1, g2, g3, g4, g5, -⟩ := goodG_in hg
    obtain ⟨e1, e2, e3, e4⟩ := h.yes (by omega) (by omega) (by omega) (by omega)
    refine ⟨e1, e2, e3, fun x y => ?_⟩
    rw [e4]
    by_cases q : 0 ≤ x ∧ x < 2 * g.w ∧ 0 ≤ y ∧ y < 2 * g.h
    · rw [decide_eq_true q, Bool.true_and, decide_eq_true ⟨q.1, q.2.2.1⟩, Bool.true_and]
      have ex : ((x.toNat / 2 : Nat) : Int) = x / 2 := by omega
      have ey : ((y.toNat / 2 : Nat) : Int) = y / 2 := by omega
      simp only [ex, ey]
    · rw [decide_eq_false q, Bool.false_and]
      by_cases q0 : 0 ≤ x ∧ 0 ≤ y
      · rw [hasB_out (g := g) (x := x / 2) (y := y / 2) (by omega), Bool.and_false]
      · rw [decide_eq_false q0, Bool.false_and]
  no := fun hn => h.no (fun q => hn ⟨hg, by omega, by omega⟩)
theorem wideP_of {g b : GM} {m k : Int} (hg : goodG g = true) (h : MadeP m k (fun x y => hasB g x y) b) : WideP g m k b where
  ok := h.ok
  yes := fun _ h1 h2 h3 h4 => by
    obtain ⟨e1, e2, e3, e4⟩ := h.yes h1 h2 h3 h4
    refine ⟨e1, e2, e3, fun x y => ?_⟩
    rw [e4]
    by_cases q : 0 ≤ x ∧ x < m ∧ 0 ≤ y ∧ y < k
    · rw [decide_eq_true q, Bool.true_and, decide_eq_true ⟨q.2.1, q.2.2.2⟩, Bool.true_and]
      have ex : ((x.toNat : Nat) : Int) = x := by omega
      have ey : ((y.toNat : Nat) : Int) = y := by omega
      simp only [ex, ey]
    · rw [decide_eq_false q, Bool.false_and]
      by_cases q0 : x < m ∧ y < k
      · rw [hasB_out (g := g) (by omega), Bool.and_false]
      · rw [decide_eq_false q0, Bool.false_and]
  no := fun hn => h.no (fun q => hn ⟨hg, q⟩)
theorem ofP_of {l : List Int} {o : GM} (h : MadeP ((min l.length 32 : Nat) : Int) 8 (fun x y => bitZ (l.getD x 0) y) o) : OfP l o := by
  obtain ⟨e1, e2, e3, e4⟩ := h.yes (by omega) (by omega) (by omega) (by omega)
  refine ⟨h.ok, e3, e1, e2, fun x y hx hy => ?_⟩
  rw [e4, decide_eq_true (by omega), Bool.true_and]
  simp
theorem noneG_bold {g : GM} (h : goodG g = false) : BoldP g ⟨0, 0, []⟩ := ⟨⟨by unfold I64; simp, by unfold I64; simp, (fun r hr => by cases hr)⟩, (fun q => by rw [h] at q; cases q), fun _ => ⟨rfl, rfl, rfl⟩⟩
theorem noneG_large {g : GM} (h : goodG g = false) : LargeP g ⟨0, 0, []⟩ := ⟨⟨by unfold I64; simp, by unfold I64; simp, (fun r hr => by cases hr)⟩, (fun q => by rw [h] at q; cases q), fun _ => ⟨rfl, rfl, rfl⟩⟩
theorem noneG_wide {g : GM} {m k : Int} (h : goodG g = false) : WideP g m k ⟨0, 0, []⟩ := ⟨⟨by unfold I64; simp, by unfold I64; simp, (fun r hr => by cases hr)⟩, (fun q => by rw [h] at q; cases q), fun _ => ⟨rfl, rfl, rfl⟩⟩
set_option maxRecDepth 100000 in
set_option maxHeartbeats 3200000 in
theorem bold_any {g : GM} {v : Value} {w : World} (hv : IsG g v w) (hok : g.Ok) (hl : g.rows.length ≤ 1000) : Shows 33 #[v] w (IsP (BoldP g)) := by
  have HV := Lib.hid hv
  obtain ⟨A, n, cap, rfl, -⟩ := hv.form
  rcases hg : goodG g
  · have HG := Lib.hid (fun w' (ha : AnyLater w w') => glGood_any g _ w' false hg (HV.out.later ha) hok hl)
    have HZ := Lib.hid (noneG_bold hg)
    clear hv hg
    obtain ⟨W, hW⟩ : ∃ z, g.w = z := ⟨_, rfl⟩
    obtain ⟨H, hH⟩ : ∃ z, g.h = z := ⟨_, rfl⟩
    rw [hW, hH] at HG ⊢
    clear hW hH
    go_enter Try.func33, Try.ntmps33
    go_wp2_with fail
    first | refine settle_wp (fun wS => AnyLater w wS ∧ wS.heap[w.heap.size]? = some (.cells #[.int .i64 W, .int .i64 H, .slice A n cap] 51) ∧ wS.heap[w.heap.size + 1]? = some (.cells #[.int .i64 0, .int .i64 0, .slice none 0 0] 51)) ?_ ?_ | refine settle_calls (fun wS => AnyLater w wS ∧ wS.heap[w.heap.size]? = some (.cells #[.int .i64 W, .int .i64 H, .slice A n cap] 51) ∧ wS.heap[w.heap.size + 1]? = some (.cells #[.int .i64 0, .int .i64 0, .slice none 0 0] 51)) ?_ ?_
    · refine ⟨?_, ?_, ?_⟩
      · repeat' (first | with_reducible assumption | with_reducible exact AnyLater.refl _ | with_reducible apply AnyLater.setCell | with_reducible apply AnyLater.later | with_reducible apply AnyLater.drewN | with_reducible apply AnyLater.drew | with_reducible apply AnyLater.alloc | ((try simp only [World.size_alloc, World.size_setCell, World.size_drew]); (try dsimp only); omega))
      · ((repeat (first | with_reducible assumption | ((with_reducible apply heap_new); (try simp only [World.size_alloc, World.size_setCell, World.size_drew, World.heap_drewN]); done) | ((with_reducible apply heap_new); (try simp only [World.size_alloc, World.size_setCell, World.size_drew, World.heap_drewN]); omega) | (with_reducible refine heap_old (by (try simp only [World.size_alloc, World.size_setCell, World.size_drew, World.heap_drewN]); omega) ?_) | (with_reducible refine heap_drew ?_) | (with_reducible refine heap_far (by omega) ?_) | (with_reducible apply heap_at))); all_goals rfl)
      · ((repeat (first | with_reducible assumption | ((with_reducible apply heap_new); (try simp only [World.size_alloc, World.size_setCell, World.size_drew, World.heap_drewN]); done) | ((with_reducible apply heap_new); (try simp only [World.size_alloc, World.size_setCell, World.size_drew, World.heap_drewN]); omega) | (with_reducible refine heap_old (by (try simp only [World.size_alloc, World.size_setCell, World.size_drew, World.heap_drewN]); omega) ?_) | (with_reducible refine heap_drew ?_) | (with_reducible refine heap_far (by omega) ?_) | (with_reducible apply heap_at))); all_goals rfl)
    rintro w1 ⟨b_w1, s0_w1, s1_w1⟩
    have a_w1 := b_w1
    have r0_w1 := own_row s0_w1
    have f0_w1 := own_free s0_w1
    have l0_w1 := own_lt s0_w1
    have r1_w1 := own_row s1_w1
    have f1_w1 := own_free s1_w1
    have l1_w1 := own_lt s1_w1
    have z_w1 := b_w1.below.size
    refine (HG.out w1 a_w1).mono ?_
    rintro e w2 ⟨rfl, b2⟩
    have s1_w2 := any_own b2 s1_w1
    have r1_w2 := own_row s1_w2
    have f1_w2 := own_free s1_w2
    have HA := Lib.hid (a_w1.trans b2)
    clear b2 r0_w1 r1_w1 s0_w1 s1_w1
    go_wp2_with fail
    refine bodyPost_ret (v := .agg #[.int .i64 0, .int .i64 0, .slice none 0 0]) (by simp [results, Try.results33, go_sem, *]) rfl ?_
    refine ⟨_, rfl, ?_, _, zeroG_is _, HZ.out⟩
    exact ((HA.out.setCell (by simp) _).setCell (by simp) _).setCell (by simp) _
  · have HG := Lib.hid (fun w' (ha : AnyLater w w') => glGood_any g _ w' true hg (HV.out.later ha) hok hl)
    obtain ⟨g1, g2, g3, g4, g5, -⟩ := goodG_in hg
    have HP : Hid (∀ b, MadeP (g.w + 1) (g.h) (fun x y => hasB g x y || hasB g ((x : Int) - 1) y) b → BoldP g b) := Lib.hid (fun b hb => boldP_of hg hb)
    have HM : Hid (∀ w', AnyLater w w' → w'.heap[w.heap.size]? = some (.cells #[.int .i64 g.w, .int .i64 g.h, .slice A n cap] 51) → Shows 67 #[.int .i64 (g.w + 1), .int .i64 (g.h), .func (.func 68) #[] #[.pointer (some ⟨w.heap.size, 0, none⟩)]] w' (IsP (MadeP (g.w + 1) (g.h) (fun x y => hasB g x y || hasB g ((x : Int) - 1) y)))) := Lib.hid (fun w' ha hs => made_any _ _ _ _ _ w' (fun args w => by kernel_rfl) (by unfold I64 at *; omega) (by unfold I64 at *; omega) (fun x y hx hy hx2 hy2 w1 h1 => bold_do g A n cap w.heap.size x y w1 (HV.out.later (ha.trans h1)) (any_own h1 hs) hok hg (by omega) (by omega)))
    clear hv hg g5
    obtain ⟨W, hW⟩ : ∃ z, g.w = z := ⟨_, rfl⟩
    obtain ⟨H, hH⟩ : ∃ z, g.h = z := ⟨_, rfl⟩
    rw [hW, hH] at HG
    rw [hW, hH] at HM
    rw [hW] at g1 g2
    rw [hH] at g3 g4
    (try rw [hW, hH] at HP)
    rw [hW, hH]
    clear hW hH
    go_enter Try.func33, Try.ntmps33
    go_wp2_with fail
    first | refine settle_wp (fun wS => AnyLater w wS ∧ wS.heap[w.heap.size]? = some (.cells #[.int .i64 W, .int .i64 H, .slice A n cap] 51) ∧ wS.heap[w.heap.size + 1]? = some (.cells #[.int .i64 0, .int .i64 0, .slice none 0 0] 51)) ?_ ?_ | refine settle_calls (fun wS => AnyLater w wS ∧ wS.heap[w.heap.size]? = some (.cells #[.int .i64 W, .int .i64 H, .slice A n cap] 51) ∧ wS.heap[w.heap.size + 1]? = some (.cells #[.int .i64 0, .int .i64 0, .slice none 0 0] 51)) ?_ ?_
    · refine ⟨?_, ?_, ?_⟩
      · repeat' (first | with_reducible assumption | with_reducible exact AnyLater.refl _ | with_reducible apply AnyLater.setCell | with_reducible apply AnyLater.later | with_reducible apply AnyLater.drewN | with_reducible apply AnyLater.drew | with_reducible apply AnyLater.alloc | ((try simp only [World.size_alloc, World.size_setCell, World.size_drew]); (try dsimp only); omega))
      · ((repeat (first | with_reducible assumption | ((with_reducible apply heap_new); (try simp only [World.size_alloc, World.size_setCell, World.size_drew, World.heap_drewN]); done) | ((with_reducible apply heap_new); (try simp only [World.size_alloc, World.size_setCell, World.size_drew, World.heap_drewN]); omega) | (with_reducible refine heap_old (by (try simp only [World.size_alloc, World.size_setCell, World.size_drew, World.heap_drewN]); omega) ?_) | (with_reducible refine heap_drew ?_) | (with_reducible refine heap_far (by omega) ?_) | (with_reducible apply heap_at))); all_goals rfl)
      · ((repeat (first | with_reducible assumption | ((with_reducible apply heap_new); (try simp only [World.size_alloc, World.size_setCell, World.size_drew, World.heap_drewN]); done) | ((with_reducible apply heap_new); (try simp only [World.size_alloc, World.size_setCell, World.size_drew, World.heap_drewN]); omega) | (with_reducible refine heap_old (by (try simp only [World.size_alloc, World.size_setCell, World.size_drew, World.heap_drewN]); omega) ?_) | (with_reducible refine heap_drew ?_) | (with_reducible refine heap_far (by omega) ?_) | (with_reducible apply heap_at))); all_goals rfl)
    rintro w1 ⟨b_w1, s0_w1, s1_w1⟩
    have a_w1 := b_w1
    have r0_w1 := own_row s0_w1
    have f0_w1 := own_free s0_w1
    have l0_w1 := own_lt s0_w1
    have r1_w1 := own_row s1_w1
    have f1_w1 := own_free s1_w1
    have l1_w1 := own_lt s1_w1
    have z_w1 := b_w1.below.size
    refine (HG.out w1 a_w1).mono ?_
    rintro e w2 ⟨rfl, b2⟩
    have s0_w2 := any_own b2 s0_w1
    have r0_w2 := own_row s0_w2
    have s1_w2 := any_own b2 s1_w1
    have HM2 := Lib.hid (HM.out w2 (a_w1.trans b2) s0_w2)
    have HA := Lib.hid (a_w1.trans b2)
    clear b2 r0_w1 r1_w1 s0_w1 s1_w1
    go_wp2_with fail
    refine HM2.out.mono ?_
    rintro e w3 ⟨u, rfl, b3, b, ho, hp⟩
    have HO := Lib.hid ho
    have HB := Lib.hid (HP.out b hp)
    obtain ⟨A2, n2, cap2, rfl, -⟩ := ho.form
    have s1_w3 := any_own b3 s1_w2
    have HS := Lib.hid s1_w3
    have HA3 := Lib.hid (HA.out.trans b3)
    have r1_w3 := own_row s1_w3
    have f1_w3 := own_free s1_w3
    clear b3 ho hp r0_w2 s0_w2 s1_w2 s1_w3
    generalize hbw : b.w = bw at *
    generalize hbh : b.h = bh at *
    have HE := Lib.hid (And.intro hbw hbh)
    clear hbw hbh
    go_wp2_with fail
    refine bodyPost_ret (v := .agg #[.int .i64 bw, .int .i64 bh, .slice A2 n2 cap2]) (by simp [results, Try.results33, go_sem, *]) rfl ?_
    refine ⟨_, rfl, ?_, b, HO.out.keeps (S := fun q => q = w.heap.size + 1) ?_ (fun q hq => by subst hq; exact box_no32 HS.out), HB.out⟩
    · exact ((HA3.out.setCell (by simp) _).setCell (by simp) _).setCell (by simp) _
    · refine Keeps.setCell (Keeps.setCell (Keeps.setCell (Keeps.refl _ _) ?_ _) ?_ _) ?_ _ <;> rfl
set_option maxRecDepth 100000 in
set_option maxHeartbeats 3200000 in
theorem large_any {g : GM} {v : Value} {w : World} (hv : IsG g v w) (hok : g.Ok) (hl : g.rows.length ≤ 1000) : Shows 34 #[v] w (IsP (LargeP g)) := by
  have HV := Lib.hid hv
  obtain ⟨A, n, cap, rfl, -⟩ := hv.form
  rcases hg : goodG g
  · have HG := Lib.hid (fun w' (ha : AnyLater w w') => glGood_any g _ w' false hg (HV.out.later ha) hok hl)
    have HZ := Lib.hid (noneG_large hg)
    clear hv hg
    obtain ⟨W, hW⟩ : ∃ z, g.w = z := ⟨_, rfl⟩
    obtain ⟨H, hH⟩ : ∃ z, g.h = z := ⟨_, rfl⟩
    rw [hW, hH] at HG ⊢
    clear hW hH
    go_enter Try.func34, Try.ntmps34
    go_wp2_with fail
    first | refine settle_wp (fun wS => AnyLater w wS ∧ wS.heap[w.heap.size]? = some (.cells #[.int .i64 W, .int .i64 H, .slice A n cap] 51) ∧ wS.heap[w.heap.size + 1]? = some (.cells #[.int .i64 0, .int .i64 0, .slice none 0 0] 51)) ?_ ?_ | refine settle_calls (fun wS => AnyLater w wS ∧ wS.heap[w.heap.size]? = some (.cells #[.int .i64 W, .int .i64 H, .slice A n cap] 51) ∧ wS.heap[w.heap.size + 1]? = some (.cells #[.int .i64 0, .int .i64 0, .slice none 0 0] 51)) ?_ ?_
    · refine ⟨?_, ?_, ?_⟩
      · repeat' (first | with_reducible assumption | with_reducible exact AnyLater.refl _ | with_reducible apply AnyLater.setCell | with_reducible apply AnyLater.later | with_reducible apply AnyLater.drewN | with_reducible apply AnyLater.drew | with_reducible apply AnyLater.alloc | ((try simp only [World.size_alloc, World.size_setCell, World.size_drew]); (try dsimp only); omega))
      · ((repeat (first | with_reducible assumption | ((with_reducible apply heap_new); (try simp only [World.size_alloc, World.size_setCell, World.size_drew, World.heap_drewN]); done) | ((with_reducible apply heap_new); (try simp only [World.size_alloc, World.size_setCell, World.size_drew, World.heap_drewN]); omega) | (with_reducible refine heap_old (by (try simp only [World.size_alloc, World.size_setCell, World.size_drew, World.heap_drewN]); omega) ?_) | (with_reducible refine heap_drew ?_) | (with_reducible refine heap_far (by omega) ?_) | (with_reducible apply heap_at))); all_goals rfl)
      · ((repeat (first | with_reducible assumption | ((with_reducible apply heap_new); (try simp only [World.size_alloc, World.size_setCell, World.size_drew, World.heap_drewN]); done) | ((with_reducible apply heap_new); (try simp only [World.size_alloc, World.size_setCell, World.size_drew, World.heap_drewN]); omega) | (with_reducible refine heap_old (by (try simp only [World.size_alloc, World.size_setCell, World.size_drew, World.heap_drewN]); omega) ?_) | (with_reducible refine heap_drew ?_) | (with_reducible refine heap_far (by omega) ?_) | (with_reducible apply heap_at))); all_goals rfl)
    rintro w1 ⟨b_w1, s0_w1, s1_w1⟩
    have a_w1 := b_w1
    have r0_w1 := own_row s0_w1
    have f0_w1 := own_free s0_w1
    have l0_w1 := own_lt s0_w1
    have r1_w1 := own_row s1_w1
    have f1_w1 := own_free s1_w1
    have l1_w1 := own_lt s1_w1
    have z_w1 := b_w1.below.size
    refine (HG.out w1 a_w1).mono ?_
    rintro e w2 ⟨rfl, b2⟩
    have s1_w2 := any_own b2 s1_w1
    have r1_w2 := own_row s1_w2
    have f1_w2 := own_free s1_w2
    have HA := Lib.hid (a_w1.trans b2)
    clear b2 r0_w1 r1_w1 s0_w1 s1_w1
    go_wp2_with fail
    refine bodyPost_ret (v := .agg #[.int .i64 0, .int .i64 0, .slice none 0 0]) (by simp [results, Try.results34, go_sem, *]) rfl ?_
    refine ⟨_, rfl, ?_, _, zeroG_is _, HZ.out⟩
    exact ((HA.out.setCell (by simp) _).setCell (by simp) _).setCell (by simp) _
  · have HG := Lib.hid (fun w' (ha : AnyLater w w') => glGood_any g _ w' true hg (HV.out.later ha) hok hl)
    obtain ⟨g1, g2, g3, g4, g5, -⟩ := goodG_in hg
    have HP : Hid (∀ b, MadeP (2 * g.w) (2 * g.h) (fun x y => hasB g ((x / 2 : Nat) : Int) ((y / 2 : Nat) : Int)) b → LargeP g b) := Lib.hid (fun b hb => largeP_of hg hb)
    have HM : Hid (∀ w', AnyLater w w' → w'.heap[w.heap.size]? = some (.cells #[.int .i64 g.w, .int .i64 g.h, .slice A n cap] 51) → Shows 67 #[.int .i64 (2 * g.w), .int .i64 (2 * g.h), .func (.func 69) #[] #[.pointer (some ⟨w.heap.size, 0, none⟩)]] w' (IsP (MadeP (2 * g.w) (2 * g.h) (fun x y => hasB g ((x / 2 : Nat) : Int) ((y / 2 : Nat) : Int))))) := Lib.hid (fun w' ha hs => made_any _ _ _ _ _ w' (fun args w => by kernel_rfl) (by unfold I64 at *; omega) (by unfold I64 at *; omega) (fun x y hx hy hx2 hy2 w1 h1 => large_do g A n cap w.heap.size x y w1 (HV.out.later (ha.trans h1)) (any_own h1 hs) hok hg (by omega) (by omega)))
    clear hv hg g5
    obtain ⟨W, hW⟩ : ∃ z, g.w = z := ⟨_, rfl⟩
    obtain ⟨H, hH⟩ : ∃ z, g.h = z := ⟨_, rfl⟩
    rw [hW, hH] at HG
    rw [hW, hH] at HM
    rw [hW] at g1 g2
    rw [hH] at g3 g4
    (try rw [hW, hH] at HP)
    rw [hW, hH]
    clear hW hH
    go_enter Try.func34, Try.ntmps34
    go_wp2_with fail
    first | refine settle_wp (fun wS => AnyLater w wS ∧ wS.heap[w.heap.size]? = some (.cells #[.int .i64 W, .int .i64 H, .slice A n cap] 51) ∧ wS.heap[w.heap.size + 1]? = some (.cells #[.int .i64 0, .int .i64 0, .slice none 0 0] 51)) ?_ ?_ | refine settle_calls (fun wS => AnyLater w wS ∧ wS.heap[w.heap.size]? = some (.cells #[.int .i64 W, .int .i64 H, .slice A n cap] 51) ∧ wS.heap[w.heap.size + 1]? = some (.cells #[.int .i64 0, .int .i64 0, .slice none 0 0] 51)) ?_ ?_
    · refine ⟨?_, ?_, ?_⟩
      · repeat' (first | with_reducible assumption | with_reducible exact AnyLater.refl _ | with_reducible apply AnyLater.setCell | with_reducible apply AnyLater.later | with_reducible apply AnyLater.drewN | with_reducible apply AnyLater.drew | with_reducible apply AnyLater.alloc | ((try simp only [World.size_alloc, World.size_setCell, World.size_drew]); (try dsimp only); omega))
      · ((repeat (first | with_reducible assumption | ((with_reducible apply heap_new); (try simp only [World.size_alloc, World.size_setCell, World.size_drew, World.heap_drewN]); done) | ((with_reducible apply heap_new); (try simp only [World.size_alloc, World.size_setCell, World.size_drew, World.heap_drewN]); omega) | (with_reducible refine heap_old (by (try simp only [World.size_alloc, World.size_setCell, World.size_drew, World.heap_drewN]); omega) ?_) | (with_reducible refine heap_drew ?_) | (with_reducible refine heap_far (by omega) ?_) | (with_reducible apply heap_at))); all_goals rfl)
      · ((repeat (first | with_reducible assumption | ((with_reducible apply heap_new); (try simp only [World.size_alloc, World.size_setCell, World.size_drew, World.heap_drewN]); done) | ((with_reducible apply heap_new); (try simp only [World.size_alloc, World.size_setCell, World.size_drew, World.heap_drewN]); omega) | (with_reducible refine heap_old (by (try simp only [World.size_alloc, World.size_setCell, World.size_drew, World.heap_drewN]); omega) ?_) | (with_reducible refine heap_drew ?_) | (with_reducible refine heap_far (by omega) ?_) | (with_reducible apply heap_at))); all_goals rfl)
    rintro w1 ⟨b_w1, s0_w1, s1_w1⟩
    have a_w1 := b_w1
    have r0_w1 := own_row s0_w1
    have f0_w1 := own_free s0_w1
    have l0_w1 := own_lt s0_w1
    have r1_w1 := own_row s1_w1
    have f1_w1 := own_free s1_w1
    have l1_w1 := own_lt s1_w1
    have z_w1 := b_w1.below.size
    refine (HG.out w1 a_w1).mono ?_
    rintro e w2 ⟨rfl, b2⟩
    have s0_w2 := any_own b2 s0_w1
    have r0_w2 := own_row s0_w2
    have s1_w2 := any_own b2 s1_w1
    have HM2 := Lib.hid (HM.out w2 (a_w1.trans b2) s0_w2)
    have HA := Lib.hid (a_w1.trans b2)
    clear b2 r0_w1 r1_w1 s0_w1 s1_w1
    go_wp2_with fail
    refine HM2.out.mono ?_
    rintro e w3 ⟨u, rfl, b3, b, ho, hp⟩
    have HO := Lib.hid ho
    have HB := Lib.hid (HP.out b hp)
    obtain ⟨A2, n2, cap2, rfl, -⟩ := ho.form
    have s1_w3 := any_own b3 s1_w2
    have HS := Lib.hid s1_w3
    have HA3 := Lib.hid (HA.out.trans b3)
    have r1_w3 := own_row s1_w3
    have f1_w3 := own_free s1_w3
    clear b3 ho hp r0_w2 s0_w2 s1_w2 s1_w3
    generalize hbw : b.w = bw at *
    generalize hbh : b.h = bh at *
    have HE := Lib.hid (And.intro hbw hbh)
    clear hbw hbh
    go_wp2_with fail
    refine bodyPost_ret (v := .agg #[.int .i64 bw, .int .i64 bh, .slice A2 n2 cap2]) (by simp [results, Try.results34, go_sem, *]) rfl ?_
    refine ⟨_, rfl, ?_, b, HO.out.keeps (S := fun q => q = w.heap.size + 1) ?_ (fun q hq => by subst hq; exact box_no32 HS.out), HB.out⟩
    · exact ((HA3.out.setCell (by simp) _).setCell (by simp) _).setCell (by simp) _
    · refine Keeps.setCell (Keeps.setCell (Keeps.setCell (Keeps.refl _ _) ?_ _) ?_ _) ?_ _ <;> rfl
set_option maxRecDepth 100000 in
set_option maxHeartbeats 3200000 in
theorem wide_any {g : GM} {v : Value} {w : World} (m k : Int) (hv : IsG g v w) (hok : g.Ok) (hl : g.rows.length ≤ 1000) (hm : I64 m) (hk : I64 k) : Shows 37 #[v, .int .i64 m, .int .i64 k] w (IsP (WideP g m k)) := by
  have HV := Lib.hid hv
  obtain ⟨A, n, cap, rfl, -⟩ := hv.form
  rcases hg : goodG g
  · have HG := Lib.hid (fun w' (ha : AnyLater w w') => glGood_any g _ w' false hg (HV.out.later ha) hok hl)
    have HZ := Lib.hid (noneG_wide (m := m) (k := k) hg)
    clear hv hg
    obtain ⟨W, hW⟩ : ∃ z, g.w = z := ⟨_, rfl⟩
    obtain ⟨H, hH⟩ : ∃ z, g.h = z := ⟨_, rfl⟩
    rw [hW, hH] at HG ⊢
    clear hW hH
    go_enter Try.func37, Try.ntmps37
    go_wp2_with fail
    first | refine settle_wp (fun wS => AnyLater w wS ∧ wS.heap[w.heap.size]? = some (.cells #[.int .i64 W, .int .i64 H, .slice A n cap] 51) ∧ wS.heap[w.heap.size + 1]? = some (.cells #[.int .i64 0, .int .i64 0, .slice none 0 0] 51)) ?_ ?_ | refine settle_calls (fun wS => AnyLater w wS ∧ wS.heap[w.heap.size]? = some (.cells #[.int .i64 W, .int .i64 H, .slice A n cap] 51) ∧ wS.heap[w.heap.size + 1]? = some (.cells #[.int .i64 0, .int .i64 0, .slice none 0 0] 51)) ?_ ?_
    · refine ⟨?_, ?_, ?_⟩
      · repeat' (first | with_reducible assumption | with_reducible exact AnyLater.refl _ | with_reducible apply AnyLater.setCell | with_reducible apply AnyLater.later | with_reducible apply AnyLater.drewN | with_reducible apply AnyLater.drew | with_reducible apply AnyLater.alloc | ((try simp only [World.size_alloc, World.size_setCell, World.size_drew]); (try dsimp only); omega))
      · ((repeat (first | with_reducible assumption | ((with_reducible apply heap_new); (try simp only [World.size_alloc, World.size_setCell, World.size_drew, World.heap_drewN]); done) | ((with_reducible apply heap_new); (try simp only [World.size_alloc, World.size_setCell, World.size_drew, World.heap_drewN]); omega) | (with_reducible refine heap_old (by (try simp only [World.size_alloc, World.size_setCell, World.size_drew, World.heap_drewN]); omega) ?_) | (with_reducible refine heap_drew ?_) | (with_reducible refine heap_far (by omega) ?_) | (with_reducible apply heap_at))); all_goals rfl)
      · ((repeat (first | with_reducible assumption | ((with_reducible apply heap_new); (try simp only [World.size_alloc, World.size_setCell, World.size_drew, World.heap_drewN]); done) | ((with_reducible apply heap_new); (try simp only [World.size_alloc, World.size_setCell, World.size_drew, World.heap_drewN]); omega) | (with_reducible refine heap_old (by (try simp only [World.size_alloc, World.size_setCell, World.size_drew, World.heap_drewN]); omega) ?_) | (with_reducible refine heap_drew ?_) | (with_reducible refine heap_far (by omega) ?_) | (with_reducible apply heap_at))); all_goals rfl)
    rintro w1 ⟨b_w1, s0_w1, s1_w1⟩
    have a_w1 := b_w1
    have r0_w1 := own_row s0_w1
    have f0_w1 := own_free s0_w1
    have l0_w1 := own_lt s0_w1
    have r1_w1 := own_row s1_w1
    have f1_w1 := own_free s1_w1
    have l1_w1 := own_lt s1_w1
    have z_w1 := b_w1.below.size
    refine (HG.out w1 a_w1).mono ?_
    rintro e w2 ⟨rfl, b2⟩
    have s1_w2 := any_own b2 s1_w1
    have r1_w2 := own_row s1_w2
    have f1_w2 := own_free s1_w2
    have HA := Lib.hid (a_w1.trans b2)
    clear b2 r0_w1 r1_w1 s0_w1 s1_w1
    go_wp2_with fail
    refine bodyPost_ret (v := .agg #[.int .i64 0, .int .i64 0, .slice none 0 0]) (by simp [results, Try.results37, go_sem, *]) rfl ?_
    refine ⟨_, rfl, ?_, _, zeroG_is _, HZ.out⟩
    exact ((HA.out.setCell (by simp) _).setCell (by simp) _).setCell (by simp) _
  · have HG := Lib.hid (fun w' (ha : AnyLater w w') => glGood_any g _ w' true hg (HV.out.later ha) hok hl)
    obtain ⟨g1, g2, g3, g4, g5, -⟩ := goodG_in hg
    have HP : Hid (∀ b, MadeP (m) (k) (fun x y => hasB g x y) b → WideP g m k b) := Lib.hid (fun b hb => wideP_of hg hb)
    have HM : Hid (∀ w', AnyLater w w' → w'.heap[w.heap.size]? = some (.cells #[.int .i64 g.w, .int .i64 g.h, .slice A n cap] 51) → Shows 67 #[.int .i64 (m), .int .i64 (k), .func (.func 70) #[] #[.pointer (some ⟨w.heap.size, 0, none⟩)]] w' (IsP (MadeP (m) (k) (fun x y => hasB g x y)))) := Lib.hid (fun w' ha hs => made_any _ _ _ _ _ w' (fun args w => by kernel_rfl) (by unfold I64 at *; omega) (by unfold I64 at *; omega) (fun x y hx hy hx2 hy2 w1 h1 => wide_do g A n cap w.heap.size x y w1 (HV.out.later (ha.trans h1)) (any_own h1 hs) hok hg (by omega) (by omega)))
    clear hv hg g5
    obtain ⟨W, hW⟩ : ∃ z, g.w = z := ⟨_, rfl⟩
    obtain ⟨H, hH⟩ : ∃ z, g.h = z := ⟨_, rfl⟩
    rw [hW, hH] at HG
    rw [hW, hH] at HM
    rw [hW] at g1 g2
    rw [hH] at g3 g4
    (try rw [hW, hH] at HP)
    rw [hW, hH]
    clear hW hH
    go_enter Try.func37, Try.ntmps37
    go_wp2_with fail
    first | refine settle_wp (fun wS => AnyLater w wS ∧ wS.heap[w.heap.size]? = some (.cells #[.int .i64 W, .int .i64 H, .slice A n cap] 51) ∧ wS.heap[w.heap.size + 1]? = some (.cells #[.int .i64 0, .int .i64 0, .slice none 0 0] 51)) ?_ ?_ | refine settle_calls (fun wS => AnyLater w wS ∧ wS.heap[w.heap.size]? = some (.cells #[.int .i64 W, .int .i64 H, .slice A n cap] 51) ∧ wS.heap[w.heap.size + 1]? = some (.cells #[.int .i64 0, .int .i64 0, .slice none 0 0] 51)) ?_ ?_
    · refine ⟨?_, ?_, ?_⟩
      · repeat' (first | with_reducible assumption | with_reducible exact AnyLater.refl _ | with_reducible apply AnyLater.setCell | with_reducible apply AnyLater.later | with_reducible apply AnyLater.drewN | with_reducible apply AnyLater.drew | with_reducible apply AnyLater.alloc | ((try simp only [World.size_alloc, World.size_setCell, World.size_drew]); (try dsimp only); omega))
      · ((repeat (first | with_reducible assumption | ((with_reducible apply heap_new); (try simp only [World.size_alloc, World.size_setCell, World.size_drew, World.heap_drewN]); done) | ((with_reducible apply heap_new); (try simp only [World.size_alloc, World.size_setCell, World.size_drew, World.heap_drewN]); omega) | (with_reducible refine heap_old (by (try simp only [World.size_alloc, World.size_setCell, World.size_drew, World.heap_drewN]); omega) ?_) | (with_reducible refine heap_drew ?_) | (with_reducible refine heap_far (by omega) ?_) | (with_reducible apply heap_at))); all_goals rfl)
      · ((repeat (first | with_reducible assumption | ((with_reducible apply heap_new); (try simp only [World.size_alloc, World.size_setCell, World.size_drew, World.heap_drewN]); done) | ((with_reducible apply heap_new); (try simp only [World.size_alloc, World.size_setCell, World.size_drew, World.heap_drewN]); omega) | (with_reducible refine heap_old (by (try simp only [World.size_alloc, World.size_setCell, World.size_drew, World.heap_drewN]); omega) ?_) | (with_reducible refine heap_drew ?_) | (with_reducible refine heap_far (by omega) ?_) | (with_reducible apply heap_at))); all_goals rfl)
    rintro w1 ⟨b_w1, s0_w1, s1_w1⟩
    have a_w1 := b_w1
    have r0_w1 := own_row s0_w1
    have f0_w1 := own_free s0_w1
    have l0_w1 := own_lt s0_w1
    have r1_w1 := own_row s1_w1
    have f1_w1 := own_free s1_w1
    have l1_w1 := own_lt s1_w1
    have z_w1 := b_w1.below.size
    refine (HG.out w1 a_w1).mono ?_
    rintro e w2 ⟨rfl, b2⟩
    have s0_w2 := any_own b2 s0_w1
    have r0_w2 := own_row s0_w2
    have s1_w2 := any_own b2 s1_w1
    have HM2 := Lib.hid (HM.out w2 (a_w1.trans b2) s0_w2)
    have HA := Lib.hid (a_w1.trans b2)
    clear b2 r0_w1 r1_w1 s0_w1 s1_w1
    go_wp2_with fail
    refine HM2.out.mono ?_
    rintro e w3 ⟨u, rfl, b3, b, ho, hp⟩
    have HO := Lib.hid ho
    have HB := Lib.hid (HP.out b hp)
    obtain ⟨A2, n2, cap2, rfl, -⟩ := ho.form
    have s1_w3 := any_own b3 s1_w2
    have HS := Lib.hid s1_w3
    have HA3 := Lib.hid (HA.out.trans b3)
    have r1_w3 := own_row s1_w3
    have f1_w3 := own_free s1_w3
    clear b3 ho hp r0_w2 s0_w2 s1_w2 s1_w3
    generalize hbw : b.w = bw at *
    generalize hbh : b.h = bh at *
    have HE := Lib.hid (And.intro hbw hbh)
    clear hbw hbh
    go_wp2_with fail
    refine bodyPost_ret (v := .agg #[.int .i64 bw, .int .i64 bh, .slice A2 n2 cap2]) (by simp [results, Try.results37, go_sem, *]) rfl ?_
    refine ⟨_, rfl, ?_, b, HO.out.keeps (S := fun q => q = w.heap.size + 1) ?_ (fun q hq => by subst hq; exact box_no32 HS.out), HB.out⟩
    · exact ((HA3.out.setCell (by simp) _).setCell (by simp) _).setCell (by simp) _
    · refine Keeps.setCell (Keeps.setCell (Keeps.setCell (Keeps.refl _ _) ?_ _) ?_ _) ?_ _ <;> rfl
set_option maxRecDepth 100000 in
set_option maxHeartbeats 3200000 in
theorem of_any {v : Value} {l : List Int} {w : World} (hv : RY w v l) (hl : ∀ c ∈ l, 0 ≤ c ∧ c ≤ 255) (hll : l.length ≤ 40) : Shows 38 #[v] w (IsP (OfP l)) := by
  have HV := Lib.hid hv
  obtain ⟨A, cap, rfl, h2, -⟩ := hv
  have HP : Hid (∀ o, MadeP ((min l.length 32 : Nat) : Int) 8 (fun x y => bitZ (l.getD x 0) y) o → OfP l o) := Lib.hid (fun o ho => ofP_of ho)
  have HM : Hid (∀ w', AnyLater w w' → w'.heap[w.heap.size]? = some (.cells #[.slice A l.length cap] 60) → Shows 67 #[.int .i64 ((min l.length 32 : Nat) : Int), .int .i64 8, .func (.func 71) #[] #[.pointer (some ⟨w.heap.size, 0, none⟩)]] w' (IsP (MadeP ((min l.length 32 : Nat) : Int) 8 (fun x y => bitZ (l.getD x 0) y)))) := Lib.hid (fun w' ha hs => made_any _ _ _ _ _ w' (fun args w => by kernel_rfl) (by unfold I64; omega) (by unfold I64; omega) (fun x y hx hy hx2 hy2 w1 h1 => of_do l _ w.heap.size x y w1 (HV.out.later (ha.trans h1)) (any_own h1 hs) hl hll (by omega) (by omega)))
  clear hl
  generalize hn : l.length = n at *
  obtain ⟨mm, hmm⟩ : ∃ m, min n 32 = m := ⟨_, rfl⟩
  rw [hmm] at HP HM
  have hmn : ∀ w ts t, (Builtin.min_ ts t #[.int .i64 (n : Int), .int .i64 32]).run Try.prog w = .ok (.int .i64 (mm : Int)) w := fun w ts t => by
    rw [run_min_int2]; split <;> (congr 2; omega)
  clear hn hmm
  go_enter Try.func38, Try.ntmps38
  go_wp2_with fail
  first | refine settle_wp (fun wS => AnyLater w wS ∧ wS.heap[w.heap.size]? = some (.cells #[.slice A n cap] 60) ∧ wS.heap[w.heap.size + 1]? = some (.cells #[.int .i64 0, .int .i64 0, .slice none 0 0] 51)) ?_ ?_ | refine settle_calls (fun wS => AnyLater w wS ∧ wS.heap[w.heap.size]? = some (.cells #[.slice A n cap] 60) ∧ wS.heap[w.heap.size + 1]? = some (.cells #[.int .i64 0, .int .i64 0, .slice none 0 0] 51)) ?_ ?_
  · refine ⟨?_, ?_, ?_⟩
    · repeat' (first | with_reducible assumption | with_reducible exact AnyLater.refl _ | with_reducible apply AnyLater.setCell | with_reducible apply AnyLater.later | with_reducible apply AnyLater.drewN | with_reducible apply AnyLater.drew | with_reducible apply AnyLater.alloc | ((try simp only [World.size_alloc, World.size_setCell, World.size_drew]); (try dsimp only); omega))
    · ((repeat (first | with_reducible assumption | ((with_reducible apply heap_new); (try simp only [World.size_alloc, World.size_setCell, World.size_drew, World.heap_drewN]); done) | ((with_reducible apply heap_new); (try simp only [World.size_alloc, World.size_setCell, World.size_drew, World.heap_drewN]); omega) | (with_reducible refine heap_old (by (try simp only [World.size_alloc, World.size_setCell, World.size_drew, World.heap_drewN]); omega) ?_) | (with_reducible refine heap_drew ?_) | (with_reducible refine heap_far (by omega) ?_) | (with_reducible apply heap_at))); all_goals rfl)
    · ((repeat (first | with_reducible assumption | ((with_reducible apply heap_new); (try simp only [World.size_alloc, World.size_setCell, World.size_drew, World.heap_drewN]); done) | ((with_reducible apply heap_new); (try simp only [World.size_alloc, World.size_setCell, World.size_drew, World.heap_drewN]); omega) | (with_reducible refine heap_old (by (try simp only [World.size_alloc, World.size_setCell, World.size_drew, World.heap_drewN]); omega) ?_) | (with_reducible refine heap_drew ?_) | (with_reducible refine heap_far (by omega) ?_) | (with_reducible apply heap_at))); all_goals rfl)
  rintro w1 ⟨b_w1, s0_w1, s1_w1⟩
  have a_w1 := b_w1
  have r0_w1 := own_row s0_w1
  have f0_w1 := own_free s0_w1
  have l0_w1 := own_lt s0_w1
  have r1_w1 := own_row s1_w1
  have f1_w1 := own_free s1_w1
  have l1_w1 := own_lt s1_w1
  have z_w1 := b_w1.below.size
  refine (HM.out w1 a_w1 s0_w1).mono ?_
  rintro e w3 ⟨u, rfl, b3, b, ho, hp⟩
  have HO := Lib.hid ho
  have HB := Lib.hid (HP.out b hp)
  obtain ⟨A2, n2, cap2, rfl, -⟩ := ho.form
  have s1_w3 := any_own b3 s1_w1
  have HS := Lib.hid s1_w3
  have HA3 := Lib.hid (a_w1.trans b3)
  have r1_w3 := own_row s1_w3
  have f1_w3 := own_free s1_w3
  clear b3 ho hp r0_w1 s0_w1 s1_w1 r1_w1 s1_w3 hmn
  generalize hbw : b.w = bw at *
  generalize hbh : b.h = bh at *
  have HE := Lib.hid (And.intro hbw hbh)
  clear hbw hbh
  go_wp2_with fail
  refine bodyPost_ret (v := .agg #[.int .i64 bw, .int .i64 bh, .slice A2 n2 cap2]) (by simp [results, Try.results38, go_sem, *]) rfl ?_
  refine ⟨_, rfl, ?_, b, HO.out.keeps (S := fun q => q = w.heap.size + 1) ?_ (fun q hq => by subst hq; exact box_no32 HS.out), HB.out⟩
  · exact ((HA3.out.setCell (by simp) _).setCell (by simp) _).setCell (by simp) _
  · refine Keeps.setCell (Keeps.setCell (Keeps.setCell (Keeps.refl _ _) ?_ _) ?_ _) ?_ _ <;> rfl
end Go.Proofs.Ytbgpjfiabefajaa
