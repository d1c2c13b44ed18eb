/- carets, the program: meets, join, Clone, Tidy by contract. -/
import Derived.Test.YtkobnijjahpifaaDoorCarI
import Derived.Lib.SliceRun
namespace Go.Proofs.YtkobnijjahpifaaDoor
set_option linter.unusedSimpArgs false
set_option linter.unusedVariables false
set_option linter.unusedSectionVars false
open Go.RowKit

set_option maxRecDepth 100000 in
theorem pairCaret : PairT 45 23 := ⟨Tryd.underlying23, by kernel_rfl, by kernel_rfl, fun w => by simp [go_sem]⟩
/-- a row of carets of the call's own -/
def RowT (W : World) (l : Qs) (e : Ending) (w' : World) : Prop := ∃ v, e = .returned v ∧ AnyLater W w' ∧ OQ 45 w' W.heap.size v l
set_option maxRecDepth 100000 in
theorem cclone_any (v : Value) (l : Qs) (w : World) (hv : QR w v l) (hl : l.length ≤ 190000) : Calls Tryd.prog 34 #[v] w (RowT w l) := by
  obtain ⟨u, w2, q1, q2, q3⟩ := copyQ pairCaret hv hl
  have K1 := Lib.hid q1
  have K2 := Lib.hid (And.intro q2 q3)
  obtain ⟨A, cap, rfl, h2, h3⟩ := hv
  have hq := fun (w : World) (n : Nat) => Lib.run_eql_slice_nil (P := Tryd.prog) w 23 45 A n cap 0 0 Tryd.underlying23
  cases A with
  | none =>
    have h0 : l = [] := by
      cases l with
      | nil => rfl
      | cons x t => obtain ⟨b, off, e, _⟩ := h3 (by simp); cases e
    subst h0
    clear q1 q2 q3 h2 h3 K1 K2
    go_enter Tryd.func34, Tryd.ntmps34
    go_wp2_with fail
    go_ret
    exact ⟨_, rfl, AnyLater.refl _, OQ.nil _ _ _⟩
  | some ad =>
    clear q1 q2 q3 h2 h3
    generalize l.length = n at *
    go_enter Tryd.func34, Tryd.ntmps34
    go_wp2_with (at_builtin; refine Lib.wpList_append_run _ rfl _ _ _ _ rfl _ _ rfl rfl _ _ K1.out ?_)
    go_ret
    exact ⟨_, rfl, K2.out⟩
set_option maxRecDepth 100000 in
theorem meets_any (a h b k : Int) (w : World) (c : Bool) (hc : meetP (a, h) (b, k) = c) : Calls Tryd.prog 37 #[.agg #[.int .i64 a, .int .i64 h], .agg #[.int .i64 b, .int .i64 k]] w fun e w' => e = .returned (.bool c) ∧ AnyLater w w' := by
  have HE := Lib.hid (kends_any a h)
  have HF := Lib.hid (kends_any b k)
  have HX := Lib.hid (fun w => chooses_any a h w _ rfl)
  have HY := Lib.hid (fun w => chooses_any b k w _ rfl)
  have HC : Hid (c = (decide (loC (b, k) < hiC (a, h)) || (decide (loC (b, k) = hiC (a, h)) && !(!decide (b = k) && !decide (a = h))))) := Lib.hid hc.symm
  clear hc
  generalize loC (a, h) = l1 at *
  generalize hiC (a, h) = h1 at *
  generalize loC (b, k) = l2 at *
  generalize hiC (b, k) = h2 at *
  generalize hp : (!decide (a = h)) = p at *
  generalize hq : (!decide (b = k)) = q at *
  clear hp hq
  go_enter Tryd.func37, Tryd.ntmps37
  go_wp2_with fail
  first | refine settle_wp (fun wS => AnyLater w wS ∧ wS.heap[w.heap.size]? = some (.cells #[.int .i64 a, .int .i64 h] 45) ∧ wS.heap[w.heap.size + 1]? = some (.cells #[.int .i64 b, .int .i64 k] 45)) ?_ ?_ | refine settle_calls (fun wS => AnyLater w wS ∧ wS.heap[w.heap.size]? = some (.cells #[.int .i64 a, .int .i64 h] 45) ∧ wS.heap[w.heap.size + 1]? = some (.cells #[.int .i64 b, .int .i64 k] 45)) ?_ ?_
  · refine ⟨?_, ?_, ?_⟩
    · repeat' (first | with_reducible assumption | with_reducible exact AnyLater.refl _ | with_reducible apply AnyLater.setCell | with_reducible apply AnyLater.later | with_reducible apply AnyLater.drewN | with_reducible apply AnyLater.drew | with_reducible apply AnyLater.alloc | ((try simp only [World.size_alloc, World.size_setCell, World.size_drew]); (try dsimp only); omega))
    · ((repeat (first | with_reducible assumption | ((with_reducible apply heap_new); (try simp only [World.size_alloc, World.size_setCell, World.size_drew, World.heap_drewN]); done) | ((with_reducible apply heap_new); (try simp only [World.size_alloc, World.size_setCell, World.size_drew, World.heap_drewN]); omega) | (with_reducible refine heap_old (by (try simp only [World.size_alloc, World.size_setCell, World.size_drew, World.heap_drewN]); omega) ?_) | (with_reducible refine heap_drew ?_) | (with_reducible refine heap_far (by omega) ?_) | (with_reducible apply heap_at))); all_goals rfl)
    · ((repeat (first | with_reducible assumption | ((with_reducible apply heap_new); (try simp only [World.size_alloc, World.size_setCell, World.size_drew, World.heap_drewN]); done) | ((with_reducible apply heap_new); (try simp only [World.size_alloc, World.size_setCell, World.size_drew, World.heap_drewN]); omega) | (with_reducible refine heap_old (by (try simp only [World.size_alloc, World.size_setCell, World.size_drew, World.heap_drewN]); omega) ?_) | (with_reducible refine heap_drew ?_) | (with_reducible refine heap_far (by omega) ?_) | (with_reducible apply heap_at))); all_goals rfl)
  rintro w1 ⟨b_w1, s0_w1, s1_w1⟩
  have a_w1 := b_w1
  have r0_w1 := own_row s0_w1
  have f0_w1 := own_free s0_w1
  have l0_w1 := own_lt s0_w1
  have r1_w1 := own_row s1_w1
  have f1_w1 := own_free s1_w1
  have l1_w1 := own_lt s1_w1
  have z_w1 := b_w1.below.size
  go_wp2_with fail
  refine (HF.out _).mono ?_
  rintro e w2 ⟨rfl, b_w2⟩
  have z_w2 := b_w2.below.size
  have a_w2 := a_w1.trans b_w2
  have s0_w2 := any_own b_w2 s0_w1
  have s1_w2 := any_own b_w2 s1_w1
  have r0_w2 := own_row s0_w2
  have f0_w2 := own_free s0_w2
  have l0_w2 := own_lt s0_w2
  have r1_w2 := own_row s1_w2
  have f1_w2 := own_free s1_w2
  have l1_w2 := own_lt s1_w2
  (try clear r0_w1); (try clear f0_w1)
  (try clear r1_w1); (try clear f1_w1)
  go_wp2_with fail
  refine (HE.out _).mono ?_
  rintro e w3 ⟨rfl, b_w3⟩
  have z_w3 := b_w3.below.size
  have a_w3 := a_w2.trans b_w3
  have s0_w3 := any_own b_w3 s0_w2
  have s1_w3 := any_own b_w3 s1_w2
  have r0_w3 := own_row s0_w3
  have f0_w3 := own_free s0_w3
  have l0_w3 := own_lt s0_w3
  have r1_w3 := own_row s1_w3
  have f1_w3 := own_free s1_w3
  have l1_w3 := own_lt s1_w3
  (try clear r0_w2); (try clear f0_w2)
  (try clear r1_w2); (try clear f1_w2)
  have HA3 := Lib.hid a_w3
  by_cases g1 : l2 < h1
  · have e1 : c = true := by rw [HC.out, decide_eq_true g1]; rfl
    subst e1
    go_wp2_with fail
    go_ret
    exact ⟨rfl, HA3.out⟩
  · have g1' : decide (l2 < h1) = false := decide_eq_false g1
    by_cases g2 : l2 = h1
    · have g2' : (l2 == h1) = true := by simp [g2]
      have e1 : c = !(q && p) := by rw [HC.out, g1', decide_eq_true g2]; simp
      have HE2 := Lib.hid e1
      clear g1 g2 e1 HC
      cases q with
      | false =>
        have e2 : c = true := by rw [HE2.out]; rfl
        subst e2
        go_wp2_with fail
        refine (HY.out _).mono ?_
        rintro e w4 ⟨rfl, b4⟩
        go_wp2_with fail
        go_ret
        exact ⟨rfl, HA3.out.trans b4⟩
      | true =>
        have e2 : c = !p := by rw [HE2.out]; rfl
        have Q := Lib.hid e2
        clear e2
        go_wp2_with fail
        refine (HY.out _).mono ?_
        rintro e w4 ⟨rfl, b_w4⟩
        have z_w4 := b_w4.below.size
        have a_w4 := a_w3.trans b_w4
        have s0_w4 := any_own b_w4 s0_w3
        have s1_w4 := any_own b_w4 s1_w3
        have r0_w4 := own_row s0_w4
        have f0_w4 := own_free s0_w4
        have l0_w4 := own_lt s0_w4
        have r1_w4 := own_row s1_w4
        have f1_w4 := own_free s1_w4
        have l1_w4 := own_lt s1_w4
        (try clear r0_w3); (try clear f0_w3)
        (try clear r1_w3); (try clear f1_w3)
        go_wp2_with fail
        refine (HX.out _).mono ?_
        rintro e w5 ⟨rfl, b5⟩
        have HA5 := Lib.hid (a_w4.trans b5)
        clear b5
        go_wp2_with fail
        go_ret
        exact ⟨ret_bool Q.out.symm, HA5.out⟩
    · have g2' : (l2 == h1) = false := by simp [g2]
      have e1 : c = false := by rw [HC.out, g1', decide_eq_false g2]; rfl
      subst e1
      clear g1
      go_wp2_with fail
      go_ret
      exact ⟨rfl, HA3.out⟩
set_option maxRecDepth 100000 in
theorem cjoin_any (a h b k : Int) (w : World) (x y : Int) (hc : joinC (a, h) (b, k) = (x, y)) : Calls Tryd.prog 38 #[.agg #[.int .i64 a, .int .i64 h], .agg #[.int .i64 b, .int .i64 k]] w fun e w' => e = .returned (.agg #[.int .i64 x, .int .i64 y]) ∧ AnyLater w w' := by
  have HE := Lib.hid (kends_any a h)
  have HF := Lib.hid (kends_any b k)
  have hmx := crun_max (P := Tryd.prog)
  have hz0 : ∀ p q : Int, (if p < q then q else p) = hiC (p, q) := fun p q => by unfold hiC; simp only; split <;> split <;> omega
  have HC : Hid ((if h < a then (if hiC (a, h) < hiC (b, k) then hiC (b, k) else hiC (a, h), loC (a, h)) else (loC (a, h), if hiC (a, h) < hiC (b, k) then hiC (b, k) else hiC (a, h))) = (x, y)) := Lib.hid hc
  clear hc
  generalize loC (a, h) = l1 at *
  generalize hiC (a, h) = h1 at *
  generalize loC (b, k) = l2 at *
  generalize hiC (b, k) = h2 at *
  rw [hz0] at HC
  clear hz0
  have hmx' : ∀ (w : World) (ts : Array TypeId) (t : TypeId), (Builtin.max_ ts t #[.int .i64 h1, .int .i64 h2]).run Tryd.prog w = .ok (.int .i64 (hiC (h1, h2))) w := fun w ts t => hmx w ts t h1 h2
  generalize hiC (h1, h2) = z at *
  clear hmx
  go_enter Tryd.func38, Tryd.ntmps38
  go_wp2_with fail
  first | refine settle_wp (fun wS => AnyLater w wS ∧ wS.heap[w.heap.size]? = some (.cells #[.int .i64 a, .int .i64 h] 45) ∧ wS.heap[w.heap.size + 1]? = some (.cells #[.int .i64 b, .int .i64 k] 45) ∧ wS.heap[w.heap.size + 1 + 1]? = some (.cells #[.int .i64 0, .int .i64 0] 45)) ?_ ?_ | refine settle_calls (fun wS => AnyLater w wS ∧ wS.heap[w.heap.size]? = some (.cells #[.int .i64 a, .int .i64 h] 45) ∧ wS.heap[w.heap.size + 1]? = some (.cells #[.int .i64 b, .int .i64 k] 45) ∧ wS.heap[w.heap.size + 1 + 1]? = some (.cells #[.int .i64 0, .int .i64 0] 45)) ?_ ?_
  · refine ⟨?_, ?_, ?_, ?_⟩
    · repeat' (first | with_reducible assumption | with_reducible exact AnyLater.refl _ | with_reducible apply AnyLater.setCell | with_reducible apply AnyLater.later | with_reducible apply AnyLater.drewN | with_reducible apply AnyLater.drew | with_reducible apply AnyLater.alloc | ((try simp only [World.size_alloc, World.size_setCell, World.size_drew]); (try dsimp only); omega))
    · ((repeat (first | with_reducible assumption | ((with_reducible apply heap_new); (try simp only [World.size_alloc, World.size_setCell, World.size_drew, World.heap_drewN]); done) | ((with_reducible apply heap_new); (try simp only [World.size_alloc, World.size_setCell, World.size_drew, World.heap_drewN]); omega) | (with_reducible refine heap_old (by (try simp only [World.size_alloc, World.size_setCell, World.size_drew, World.heap_drewN]); omega) ?_) | (with_reducible refine heap_drew ?_) | (with_reducible refine heap_far (by omega) ?_) | (with_reducible apply heap_at))); all_goals rfl)
    · ((repeat (first | with_reducible assumption | ((with_reducible apply heap_new); (try simp only [World.size_alloc, World.size_setCell, World.size_drew, World.heap_drewN]); done) | ((with_reducible apply heap_new); (try simp only [World.size_alloc, World.size_setCell, World.size_drew, World.heap_drewN]); omega) | (with_reducible refine heap_old (by (try simp only [World.size_alloc, World.size_setCell, World.size_drew, World.heap_drewN]); omega) ?_) | (with_reducible refine heap_drew ?_) | (with_reducible refine heap_far (by omega) ?_) | (with_reducible apply heap_at))); all_goals rfl)
    · ((repeat (first | with_reducible assumption | ((with_reducible apply heap_new); (try simp only [World.size_alloc, World.size_setCell, World.size_drew, World.heap_drewN]); done) | ((with_reducible apply heap_new); (try simp only [World.size_alloc, World.size_setCell, World.size_drew, World.heap_drewN]); omega) | (with_reducible refine heap_old (by (try simp only [World.size_alloc, World.size_setCell, World.size_drew, World.heap_drewN]); omega) ?_) | (with_reducible refine heap_drew ?_) | (with_reducible refine heap_far (by omega) ?_) | (with_reducible apply heap_at))); all_goals rfl)
  rintro w1 ⟨b_w1, s0_w1, s1_w1, s2_w1⟩
  have a_w1 := b_w1
  have r0_w1 := own_row s0_w1
  have f0_w1 := own_free s0_w1
  have l0_w1 := own_lt s0_w1
  have r1_w1 := own_row s1_w1
  have f1_w1 := own_free s1_w1
  have l1_w1 := own_lt s1_w1
  have r2_w1 := own_row s2_w1
  have f2_w1 := own_free s2_w1
  have l2_w1 := own_lt s2_w1
  have z_w1 := b_w1.below.size
  go_wp2_with fail
  refine (HE.out _).mono ?_
  rintro e w2 ⟨rfl, b_w2⟩
  have z_w2 := b_w2.below.size
  have a_w2 := a_w1.trans b_w2
  have s0_w2 := any_own b_w2 s0_w1
  have s1_w2 := any_own b_w2 s1_w1
  have s2_w2 := any_own b_w2 s2_w1
  have r0_w2 := own_row s0_w2
  have f0_w2 := own_free s0_w2
  have l0_w2 := own_lt s0_w2
  have r1_w2 := own_row s1_w2
  have f1_w2 := own_free s1_w2
  have l1_w2 := own_lt s1_w2
  have r2_w2 := own_row s2_w2
  have f2_w2 := own_free s2_w2
  have l2_w2 := own_lt s2_w2
  (try clear r0_w1); (try clear f0_w1)
  (try clear r1_w1); (try clear f1_w1)
  (try clear r2_w1); (try clear f2_w1)
  go_wp2_with fail
  refine (HF.out _).mono ?_
  rintro e w3 ⟨rfl, b_w3⟩
  have z_w3 := b_w3.below.size
  have a_w3 := a_w2.trans b_w3
  have s0_w3 := any_own b_w3 s0_w2
  have s1_w3 := any_own b_w3 s1_w2
  have s2_w3 := any_own b_w3 s2_w2
  have r0_w3 := own_row s0_w3
  have f0_w3 := own_free s0_w3
  have l0_w3 := own_lt s0_w3
  have r1_w3 := own_row s1_w3
  have f1_w3 := own_free s1_w3
  have l1_w3 := own_lt s1_w3
  have r2_w3 := own_row s2_w3
  have f2_w3 := own_free s2_w3
  have l2_w3 := own_lt s2_w3
  (try clear r0_w2); (try clear f0_w2)
  (try clear r1_w2); (try clear f1_w2)
  (try clear r2_w2); (try clear f2_w2)
  by_cases d : h < a
  · have Q : Hid ((z, l1) = (x, y)) := Lib.hid (by have := HC.out; rwa [if_pos d] at this)
    go_wp2_with fail
    have s9 := heap_at (i := 0 + 1) (v := .int .i64 l1) (heap_at (i := 0) (v := .int .i64 z) s2_w3 rfl) rfl
    have r9 := own_row s9
    refine bodyPost_ret (v := .agg #[.int .i64 z, .int .i64 l1]) (by simp [results, Tryd.results38, go_sem, r9]) rfl ⟨by cases Q.out; rfl, ?_⟩
    exact (a_w3.setCell (p := ⟨w.heap.size + 1 + 1, 0, none⟩) (by simp only; omega) _).setCell (p := ⟨w.heap.size + 1 + 1, 0 + 1, none⟩) (by simp only; omega) _
  · have Q : Hid ((l1, z) = (x, y)) := Lib.hid (by have := HC.out; rwa [if_neg d] at this)
    have d' : decide (h < a) = false := decide_eq_false d
    go_wp2_with fail
    have s9 := heap_at (i := 0 + 1) (v := .int .i64 z) (heap_at (i := 0) (v := .int .i64 l1) s2_w3 rfl) rfl
    have r9 := own_row s9
    refine bodyPost_ret (v := .agg #[.int .i64 l1, .int .i64 z]) (by simp [results, Tryd.results38, go_sem, r9]) rfl ⟨by cases Q.out; rfl, ?_⟩
    exact (a_w3.setCell (p := ⟨w.heap.size + 1 + 1, 0, none⟩) (by simp only; omega) _).setCell (p := ⟨w.heap.size + 1 + 1, 0 + 1, none⟩) (by simp only; omega) _

/-! ### Tidy -/
theorem stepC_last {o : Qs} {k c : Ca} : stepC (o ++ [k]) c = if meetC k c = true then o ++ [joinC k c] else o ++ [k] ++ [c] := by
  cases h : meetC k c with
  | true => rw [stepC_meet h]; rfl
  | false => rw [stepC_new h]; rfl
set_option maxRecDepth 100000 in
set_option maxHeartbeats 6400000 in
theorem ktidy_any (v : Value) (l M : Qs) (w : World) (hM : tidyC l = M) (hv : QR w v l) (hl : l.length ≤ 39) : Calls Tryd.prog 21 #[v] w (RowT w M) := by
  have HC1 := Lib.hid (cclone_any v l w hv (by omega))
  have HM := Lib.hid hM
  have HL := Lib.hid hl
  obtain ⟨A0, cap0, rfl, -⟩ := hv.form
  clear hv hM hl
  obtain ⟨n0, hn0⟩ : ∃ n0, l.length = n0 := ⟨_, rfl⟩
  rw [hn0] at HC1 ⊢
  clear hn0
  go_enter Tryd.func21, Tryd.ntmps21
  go_wp2_with fail
  refine HC1.out.mono ?_
  rintro e w1 ⟨v1, rfl, a_w1, o_w1⟩
  have HC2 := Lib.hid (sortS_any v1 l w.heap.size w w1 a_w1 (Nat.le_refl _) o_w1 HL.out)
  clear a_w1 o_w1
  go_wp2_with fail
  refine HC2.out.mono ?_
  rintro e ws ⟨rfl, a_ws, o_ws⟩
  have HO := Lib.hid (And.intro a_ws (OQ.rq o_ws))
  clear a_ws o_ws
  obtain ⟨s, hs⟩ : ∃ s, sortC l = s := ⟨_, rfl⟩
  rw [hs] at HO
  have HS := Lib.hid (show SortedC s ∧ foldC s = M ∧ s.length ≤ 39 by rw [← hs]; exact ⟨sortC_sorted l, HM.out, by rw [sortC_len]; exact HL.out⟩)
  clear hs HC1 HC2
  obtain ⟨aS, qS⟩ := HO.out
  have HWS := Lib.hid aS
  obtain ⟨A1, cap1, rfl, q2, q3⟩ := qS
  have HCC : Hid (∀ (j : Nat) (h : j < s.length), ∃ b off, A1 = some ⟨b, off, none⟩ ∧ b < ws.heap.size ∧ ws.cell? ⟨b, off + j * 2, none⟩ = some (.int .i64 s[j].1) ∧ ws.cell? ⟨b, off + j * 2 + 1, none⟩ = some (.int .i64 s[j].2)) := Lib.hid (fun j hj => by
    obtain ⟨b, off, e, hb, hc⟩ := q3 (by omega)
    exact ⟨b, off, e, hb, hc j hj⟩)
  obtain ⟨n, hn⟩ : ∃ n, s.length = n := ⟨_, rfl⟩
  have HN := Lib.hid hn
  have hn9 : n ≤ 39 := by rw [← hn]; exact HS.out.2.2
  rw [hn] at q2 ⊢
  clear q3 hn aS HO
  go_wp2_with fail
  go_loopg [4, 14] n (fun kk ov iv wr => ∃ j : Nat, kk = n - j ∧ j ≤ n ∧ iv = .int .i64 (j : Int) ∧ AnyLater ws wr ∧ OQ 45 wr ws.heap.size ov (foldC (s.take j)))
  case atStart => exact ⟨0, by omega, by omega, rfl, AnyLater.refl _, OQ.nil _ _ _⟩
  case round =>
    obtain ⟨j, hk, hj, rfl, a_wr, ho⟩ := hrel
    have HR := Lib.hid (And.intro a_wr ho)
    by_cases hlt : j < n
    · have lj : j < s.length := by rw [HN.out]; exact hlt
      obtain ⟨b, off, rfl, hb, k0, k1⟩ := HCC.out j lj
      have c0 : wr.cell? ⟨b, off + j * 2, none⟩ = some (.int .i64 s[j].1) := (a_wr.below.cell hb).trans k0
      have c1 : wr.cell? ⟨b, off + j * 2 + 1, none⟩ = some (.int .i64 s[j].2) := (a_wr.below.cell hb).trans k1
      have hT := foldC_take lj
      have hlow : ∀ x ∈ foldC (s.take j), loC x ≤ loC s[j] := fun x hx => tidy_low HS.out.1 lj hx
      have HLen : Hid ((foldC (s.take j)).length ≤ 39) := Lib.hid (by have := (tidy_inv s HS.out.1 j (by omega)).len; rw [List.length_take] at this; omega)
      clear k0 k1
      generalize foldC (s.take j) = K at *
      obtain ⟨c, hc⟩ : ∃ c, s[j] = c := ⟨_, rfl⟩
      rw [hc] at c0 c1 hT hlow
      clear hc
      obtain ⟨a, h⟩ := c
      simp only at c0 c1
      have HT := Lib.hid hT
      have lw := a_wr.below.size
      rcases last_two K with rfl | ⟨O, k, rfl⟩
      · -- the first one
        have HB := Lib.hid ((AnyLater.refl wr).alloc (.cells #[.int .i64 a, .int .i64 h] 45))
        obtain ⟨A4, cap4, rfl, -⟩ := ho.form
        have HE : Hid (foldC (s.take (j + 1)) = [(a, h)]) := Lib.hid HT.out
        clear hT hlow ho
        simp only [List.length_nil]
        go_wp2_with fail
        first | refine settle_wp (fun wS => AnyLater wr wS ∧ wS.heap[wr.heap.size]? = some (.cells #[.int .i64 a, .int .i64 h] 45)) ?_ ?_ | refine settle_calls (fun wS => AnyLater wr wS ∧ wS.heap[wr.heap.size]? = some (.cells #[.int .i64 a, .int .i64 h] 45)) ?_ ?_
        · refine ⟨?_, ?_⟩
          · repeat' (first | with_reducible assumption | with_reducible exact AnyLater.refl _ | with_reducible apply AnyLater.setCell | with_reducible apply AnyLater.later | with_reducible apply AnyLater.drewN | with_reducible apply AnyLater.drew | with_reducible apply AnyLater.alloc | ((try simp only [World.size_alloc, World.size_setCell, World.size_drew]); (try dsimp only); omega))
          · ((repeat (first | with_reducible assumption | ((with_reducible apply heap_new); (try simp only [World.size_alloc, World.size_setCell, World.size_drew, World.heap_drewN]); done) | ((with_reducible apply heap_new); (try simp only [World.size_alloc, World.size_setCell, World.size_drew, World.heap_drewN]); omega) | (with_reducible refine heap_old (by (try simp only [World.size_alloc, World.size_setCell, World.size_drew, World.heap_drewN]); omega) ?_) | (with_reducible refine heap_drew ?_) | (with_reducible refine heap_far (by omega) ?_) | (with_reducible apply heap_at))); all_goals rfl)
        rintro w2 ⟨b_w2, s0_w2⟩
        have a_w2 := a_wr.trans b_w2
        have r0_w2 := own_row s0_w2
        have f0_w2 := own_free s0_w2
        have l0_w2 := own_lt s0_w2
        have z_w2 := b_w2.below.size
        go_quiet (fail)
        have hb3 := b_w2.drewN nq
        obtain ⟨u, w3, q1, q2, q3⟩ := appQ1 pairCaret (a, h) (OQ.later hb3 HR.out.2) (Nat.le_trans lw hb3.below.size) (by simp)
        have K1 := Lib.hid q1
        have K2 := Lib.hid (And.intro (q3 ws (Nat.le_refl _) (a_wr.trans hb3)) q2)
        clear hb3
        clear q1 q2 q3 HB
        go_wp2_with (at_builtin; refine Lib.wpList_append_run _ rfl _ _ _ _ rfl _ _ rfl rfl _ _ K1.out ?_)
        go_roundg (n - (j + 1))
        case measure => omega
        case rel => exact ⟨j + 1, rfl, hlt, by go_num, K2.out.1, by rw [HE.out]; exact K2.out.2⟩
      · obtain ⟨k1, k2⟩ := k
        rcases RowC.of_own ho with ⟨h0, -⟩ | ⟨gb, cap, rfl, hBg, hm, hrow⟩
        · simp at h0
        obtain ⟨t, ht⟩ : ∃ t, O.length = t := ⟨_, rfl⟩
        have hKl : (O ++ [(k1, k2)]).length = t + 1 := by rw [List.length_append, ht]; rfl
        have hgK : (O ++ [(k1, k2)])[t]? = some (k1, k2) := by rw [← ht, List.getElem?_append_right (Nat.le_refl _), Nat.sub_self]; rfl
        have htc : t + 1 ≤ cap := by obtain ⟨_, _, h9, _⟩ := hrow; rwa [hKl] at h9
        have ht9 : t ≤ 39 := by have := HLen.out; omega
        obtain ⟨m, hmm⟩ : ∃ m, meetC (k1, k2) (a, h) = m := ⟨_, rfl⟩
        have HM1 := Lib.hid (fun w => meets_any k1 k2 a h w m (by rw [meetP_eq (hlow _ (by simp))]; exact hmm))
        have HE : Hid (foldC (s.take (j + 1)) = if m = true then O ++ [joinC (k1, k2) (a, h)] else O ++ [(k1, k2)] ++ [(a, h)]) := Lib.hid (by rw [HT.out, stepC_last, hmm])
        have HRw := Lib.hid (And.intro hBg (And.intro hm (And.intro hrow (And.intro hKl ht))))
        rw [hKl] at HR ⊢
        have i9 : (t : Int) < (t : Int) + 1 := by omega
        have i8 : decide ((0 : Int) ≤ (t : Int)) = true := decide_eq_true (by omega)
        have hwt : IntKind.i64.wrap (t : Int) = (t : Int) := by rw [IntKind.wrap_i64]; omega
        clear hT hlow ho hmm hrow hKl ht HLen HT hm
        have et : ((t : Int) + 1).toNat = t + 1 := by omega
        go_wp2_with fail
        first | refine settle_wp (fun wS => AnyLater wr wS ∧ wS.heap[wr.heap.size]? = some (.cells #[.int .i64 a, .int .i64 h] 45)) ?_ ?_ | refine settle_calls (fun wS => AnyLater wr wS ∧ wS.heap[wr.heap.size]? = some (.cells #[.int .i64 a, .int .i64 h] 45)) ?_ ?_
        · refine ⟨?_, ?_⟩
          · repeat' (first | with_reducible assumption | with_reducible exact AnyLater.refl _ | with_reducible apply AnyLater.setCell | with_reducible apply AnyLater.later | with_reducible apply AnyLater.drewN | with_reducible apply AnyLater.drew | with_reducible apply AnyLater.alloc | ((try simp only [World.size_alloc, World.size_setCell, World.size_drew]); (try dsimp only); omega))
          · ((repeat (first | with_reducible assumption | ((with_reducible apply heap_new); (try simp only [World.size_alloc, World.size_setCell, World.size_drew, World.heap_drewN]); done) | ((with_reducible apply heap_new); (try simp only [World.size_alloc, World.size_setCell, World.size_drew, World.heap_drewN]); omega) | (with_reducible refine heap_old (by (try simp only [World.size_alloc, World.size_setCell, World.size_drew, World.heap_drewN]); omega) ?_) | (with_reducible refine heap_drew ?_) | (with_reducible refine heap_far (by omega) ?_) | (with_reducible apply heap_at))); all_goals rfl)
        rintro w1 ⟨b_w1, s0_w1⟩
        have a_w1 := a_wr.trans b_w1
        have r0_w1 := own_row s0_w1
        have f0_w1 := own_free s0_w1
        have l0_w1 := own_lt s0_w1
        have z_w1 := b_w1.below.size
        have hr1 := HRw.out.2.2.1.later b_w1
        obtain ⟨d0, d1⟩ := hr1.cells hgK
        simp only at d0 d1
        apply wp_region_free (10) [⟨8, 29, .bool m, false, fun v _ => v = .bool m⟩] [] rfl (by kernel_rfl) (by kernel_rfl) (by kernel_rfl) (by simp) (by kernel_rfl)
        case hstab =>
          intro c hc
          simp only [List.mem_cons, List.not_mem_nil, or_false] at hc
          rcases hc with rfl
          · intro v x y hxy hv; exact hv
        case hfix =>
          intro c hc
          simp only [List.mem_cons, List.not_mem_nil, or_false] at hc
          rcases hc with rfl
          · exact .inr fun u x h => h
        case hlex =>
          intro U hU
          have q0 := own_row (any_own hU s0_w1)
          have q_d0 := cell_on hU d0
          have q_d1 := cell_on hU d1
          simp only [List.map_cons, List.map_nil, CA.act, actFrom, actOp, List.lookup, Nat.reduceBEq, Nat.reduceLeDiff, Nat.reduceAdd, if_false, if_true]
          repeat (go_big_quiet_step (first | fail))
          exact wpQuiet_nil rfl
        case hstep =>
          intro j hj o ho
          have hj2 : j = 0 := by simp at hj; omega
          rcases hj2 with rfl
          · cases ho
            refine ⟨rfl, fun g x hx hp => ?_⟩
            clear hp
            simp only [fillAll, Act.put, List.setIfInBounds_toArray, List.set_cons_zero, List.set_cons_succ]
            refine chain_go ?_ (free_fix (HM1.out x))
            first | (simp [go_sem, execOp]; done) | simp [go_sem, execOp, hcf]
        case htail =>
          intro g u hst hne
          have b_w2 : AnyLater w1 (later u) := ⟨u, rfl⟩
          generalize later u = w2 at *
          clear u
          clear hst hne
          simp only [fillAll, Act.put, List.setIfInBounds_toArray, List.set_cons_zero, List.set_cons_succ, List.drop_succ_cons, List.drop_zero, List.drop_nil]
          have z_w2 := b_w2.below.size
          have a_w2 := a_w1.trans b_w2
          have s0_w2 := any_own b_w2 s0_w1
          have r0_w2 := own_row s0_w2
          have f0_w2 := own_free s0_w2
          have l0_w2 := own_lt s0_w2
          (try clear r0_w1); (try clear f0_w1)
          have d0_w2 := cell_on b_w2 d0
          have d1_w2 := cell_on b_w2 d1
          have hr2 := Lib.hid (hr1.later b_w2)
          have HB2 := Lib.hid (b_w1.trans b_w2)
          cases m with
          | true =>
            obtain ⟨⟨x, y⟩, hxy⟩ : ∃ z, joinC (k1, k2) (a, h) = z := ⟨_, rfl⟩
            have HJ := Lib.hid (fun w => cjoin_any k1 k2 a h w x y hxy)
            rw [hxy] at HE
            clear hxy hr1
            go_wp2_with fail
            apply wp_region_free (9) [⟨7, 38, .agg #[.int .i64 x, .int .i64 y], false, fun v _ => v = .agg #[.int .i64 x, .int .i64 y]⟩] [] rfl (by kernel_rfl) (by kernel_rfl) (by kernel_rfl) (by simp) (by kernel_rfl)
            case hstab =>
              intro c hc
              simp only [List.mem_cons, List.not_mem_nil, or_false] at hc
              rcases hc with rfl
              · intro v x y hxy hv; exact hv
            case hfix =>
              intro c hc
              simp only [List.mem_cons, List.not_mem_nil, or_false] at hc
              rcases hc with rfl
              · exact .inr fun u x h => h
            case hlex =>
              intro U hU
              have q0 := own_row (any_own hU s0_w2)
              have q_d0_w2 := cell_on hU d0_w2
              have q_d1_w2 := cell_on hU d1_w2
              simp only [List.map_cons, List.map_nil, CA.act, actFrom, actOp, List.lookup, Nat.reduceBEq, Nat.reduceLeDiff, Nat.reduceAdd, if_false, if_true]
              repeat (go_big_quiet_step (first | fail))
              exact wpQuiet_nil rfl
            case hstep =>
              intro j hj o ho
              have hj2 : j = 0 := by simp at hj; omega
              rcases hj2 with rfl
              · cases ho
                refine ⟨rfl, fun g x hx hp => ?_⟩
                clear hp
                simp only [fillAll, Act.put, List.setIfInBounds_toArray, List.set_cons_zero, List.set_cons_succ]
                refine chain_go ?_ (free_fix (HJ.out x))
                first | (simp [go_sem, execOp]; done) | simp [go_sem, execOp, hcf]
            case htail =>
              intro g u hst hne
              have b_w3 : AnyLater w2 (later u) := ⟨u, rfl⟩
              generalize later u = w3 at *
              clear u
              clear hst hne
              simp only [fillAll, Act.put, List.setIfInBounds_toArray, List.set_cons_zero, List.set_cons_succ, List.drop_succ_cons, List.drop_zero, List.drop_nil]
              have z_w3 := b_w3.below.size
              have a_w3 := a_w2.trans b_w3
              have s0_w3 := any_own b_w3 s0_w2
              have r0_w3 := own_row s0_w3
              have f0_w3 := own_free s0_w3
              have l0_w3 := own_lt s0_w3
              (try clear r0_w2); (try clear f0_w2)
              have d0_w2_w3 := cell_on b_w3 d0_w2
              have d1_w2_w3 := cell_on b_w3 d1_w2
              have hr3 := Lib.hid (hr2.out.later b_w3)
              have f3 := hr3.out.free
              have HA3 := Lib.hid a_w3
              have l3 := hr3.out.lt
              clear a_w2 b_w2 a_w3 b_w3 a_w1 b_w1 a_wr
              go_wp2_with fail
              go_roundg (n - (j + 1))
              case measure => omega
              case rel =>
                refine ⟨j + 1, rfl, hlt, by go_num, HA3.out.put HRw.out.1 _ _ _ _, ?_⟩
                rw [HE.out]
                (first | rw [if_pos rfl] | rw [if_pos trivial])
                have hput := (hr3.out.put (i := t) (x, y) (by rw [HRw.out.2.2.2.1]; omega)).own HRw.out.1 HRw.out.2.1
                have e5 : (O ++ [(k1, k2)]).set t (x, y) = O ++ [(x, y)] := by
                  rw [List.set_append_right _ _ (Nat.le_of_eq HRw.out.2.2.2.2), HRw.out.2.2.2.2, Nat.sub_self]; rfl
                rw [e5, List.length_append, HRw.out.2.2.2.2] at hput
                exact hput
          | false =>
            have ho2 : OQ 45 w2 ws.heap.size (.slice (some ⟨gb, 0, none⟩) (t + 1) cap) (O ++ [(k1, k2)]) := OQ.later HB2.out HR.out.2
            obtain ⟨u, w3, q1, q2, q3⟩ := appQ1 pairCaret (a, h) ho2 (Nat.le_trans lw HB2.out.below.size) (by rw [HRw.out.2.2.2.1]; omega)
            have K1 := Lib.hid q1
            have K2 := Lib.hid (And.intro (q3 ws (Nat.le_refl _) a_w2) q2)
            clear q1 q2 q3 ho2 hr1
            go_wp2_with (at_builtin; refine Lib.wpList_append_run _ rfl _ _ _ _ rfl _ _ rfl rfl _ _ K1.out ?_)
            go_roundg (n - (j + 1))
            case measure => omega
            case rel => exact ⟨j + 1, rfl, hlt, by go_num, K2.out.1, by rw [HE.out, if_neg (by decide)]; exact K2.out.2⟩
    · obtain rfl : j = n := by omega
      have HE : Hid (foldC (s.take j) = M) := Lib.hid (by rw [List.take_of_length_le (Nat.le_of_eq HN.out)]; exact HS.out.2.1)
      obtain ⟨A4, cap4, rfl, -⟩ := ho.form
      clear ho
      go_wp2_with fail
      go_ret
      exact ⟨_, rfl, HWS.out.trans HR.out.1, OQ.wide HWS.out.below.size (by rw [← HE.out]; exact HR.out.2)⟩
end Go.Proofs.YtkobnijjahpifaaDoor
