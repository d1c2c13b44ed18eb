/- folds, the program: Good, Add, Drop by contract. -/
import Derived.Test.YtiicaldnegcdiaaGreatFldB
import Derived.Test.YtiicaldnegcdiaaGreatFldA
import Derived.Test.YtiicaldnegcdiaaGreatMake
import Derived.BigQuiet
namespace Go.Proofs.YtiicaldnegcdiaaGreat
set_option linter.unusedSimpArgs false
set_option linter.unusedVariables false
set_option linter.unusedSectionVars false
open Go.RowKit

/-! ### Good -/
set_option maxRecDepth 100000 in
set_option maxHeartbeats 1600000 in
theorem fgood_any (v : Value) (l : Qs) (n : Int) (c : Bool) (w : World) (hc : goodZ n 0 l = c) (hv : QR w v l) (hl : l.length ≤ 60000) : Calls Tryz.prog 53 #[v, .int .i64 n] w fun e w' => e = .returned (.bool c) ∧ AnyLater w w' := by
  obtain ⟨A, cap, rfl, h2, h3⟩ := hv
  have HCC : Hid (∀ (j : Nat) (h : j < l.length), ∃ b off, A = some ⟨b, off, none⟩ ∧ b < w.heap.size ∧ w.cell? ⟨b, off + j * 2, none⟩ = some (.int .i64 l[j].1) ∧ w.cell? ⟨b, off + j * 2 + 1, none⟩ = some (.int .i64 l[j].2)) := Lib.hid (fun j hj => by
    obtain ⟨b, off, e, hb, hc⟩ := h3 (by omega)
    exact ⟨b, off, e, hb, hc j hj⟩)
  have HK := Lib.hid hc
  obtain ⟨m, hm⟩ : ∃ m, l.length = m := ⟨_, rfl⟩
  have HN := Lib.hid hm
  rw [hm] at h2 hl ⊢
  clear h3 hc hm
  go_enter Tryz.func53, Tryz.ntmps53
  go_wp2_with fail
  go_loopg [5, 10] m (fun k ev i wr => ∃ j : Nat, k = m - j ∧ j ≤ m ∧ i = .int .i64 (j : Int) ∧ AnyLater w wr ∧ ∃ e0 : Int, ev = .int .i64 e0 ∧ endZ 0 (l.take j) = e0 ∧ goodZ n 0 (l.take j) = true)
  case atStart => exact ⟨0, by omega, by omega, rfl, AnyLater.refl _, 0, rfl, by rw [List.take_zero]; rfl, by rw [List.take_zero]; rfl⟩
  case round =>
    obtain ⟨j, hk, hj, rfl, a_wr, e0, rfl, he, hg⟩ := hrel
    have HE := Lib.hid (And.intro he hg)
    clear he hg
    by_cases hlt : j < m
    · have lj : j < l.length := by rw [HN.out]; exact hlt
      obtain ⟨b, off, rfl, hb, k0, k1⟩ := HCC.out j lj
      have c0 : wr.cell? ⟨b, off + j * 2, none⟩ = some (.int .i64 l[j].1) := (a_wr.below.cell hb).trans k0
      have c1 : wr.cell? ⟨b, off + j * 2 + 1, none⟩ = some (.int .i64 l[j].2) := (a_wr.below.cell hb).trans k1
      have l1 : b < wr.heap.size := Nat.lt_of_lt_of_le hb a_wr.below.size
      have HT : Hid (goodZ n 0 (l.take (j + 1)) = decide (e0 ≤ l[j].1 ∧ l[j].1 < l[j].2 ∧ l[j].2 ≤ n) ∧ endZ 0 (l.take (j + 1)) = l[j].2) := Lib.hid ⟨by rw [goodZ_take lj, HE.out.2, HE.out.1, Bool.true_and], endZ_take lj⟩
      have HF : Hid (goodZ n 0 (l.take (j + 1)) = false → c = false) := Lib.hid (fun h => HK.out.symm.trans (goodZ_false lj h))
      clear k0 k1
      generalize l[j] = x at *
      obtain ⟨f, t⟩ := x
      simp only at c0 c1
      by_cases h1 : f < e0
      · have HB := Lib.hid (HF.out (by rw [HT.out.1]; exact decide_eq_false (fun h => by have := h.1; simp only at this; omega)))
        go_wp2_with fail
        go_ret
        exact ⟨by rw [HB.out]; rfl, a_wr.alloc _⟩
      · have d1 : decide (f < e0) = false := decide_eq_false h1
        by_cases h2 : t ≤ f
        · have HB := Lib.hid (HF.out (by rw [HT.out.1]; exact decide_eq_false (fun h => by have := h.2.1; simp only at this; omega)))
          go_wp2_with fail
          go_ret
          exact ⟨by rw [HB.out]; rfl, a_wr.alloc _⟩
        · have d2 : decide (t ≤ f) = false := decide_eq_false h2
          by_cases h3 : n < t
          · have HB := Lib.hid (HF.out (by rw [HT.out.1]; exact decide_eq_false (fun h => by have := h.2.2; simp only at this; omega)))
            go_wp2_with fail
            go_ret
            exact ⟨by rw [HB.out]; rfl, a_wr.alloc _⟩
          · have d3 : decide (n < t) = false := decide_eq_false h3
            have HB : Hid (goodZ n 0 (l.take (j + 1)) = true) := Lib.hid (by rw [HT.out.1]; exact decide_eq_true ⟨by simp only; omega, by simp only; omega, by simp only; omega⟩)
            go_wp2_with fail
            go_roundg (m - (j + 1))
            case measure => omega
            case rel => exact ⟨j + 1, rfl, hlt, by go_num, a_wr.alloc _, t, rfl, HT.out.2, HB.out⟩
    · obtain rfl : j = m := by omega
      have HB : Hid (true = c) := Lib.hid (by
        have := HE.out.2
        rw [List.take_of_length_le (Nat.le_of_eq HN.out)] at this
        exact this.symm.trans HK.out)
      have d0 : (j : Int) ≤ 65536 := by omega
      go_wp2_with fail
      go_ret
      exact ⟨ret_bool HB.out, a_wr⟩

/-! ### Add -/
def AddS (l : Qs) (s : Int × Int) (n : Int) (W : World) (e : Ending) (w' : World) : Prop := ∃ u, e = .returned (.tuple #[u, .int .i64 (addC s l n)]) ∧ AnyLater W w' ∧ QR w' u (addL s l n)
/-- a row of three lists -/
def Three (v1 v3 : Value) (m : Qs) (u : Value) (w : World) : Prop := ∃ g v2, u = .slice (some ⟨g, 0, none⟩) 3 3 ∧ g < w.heap.size ∧ w.cell? ⟨g, 0, none⟩ = some v1 ∧ w.cell? ⟨g, 1, none⟩ = some v2 ∧ w.cell? ⟨g, 2, none⟩ = some v3 ∧ QR w v2 m
theorem Three.later {v1 v3 : Value} {m : Qs} {u : Value} {w w' : World} (a : AnyLater w w') (h : Three v1 v3 m u w) : Three v1 v3 m u w' := by
  obtain ⟨g, v2, e, h0, h1, h2, h3, h4⟩ := h
  exact ⟨g, v2, e, Nat.lt_of_lt_of_le h0 a.below.size, cell_on a h1, cell_on a h2, cell_on a h3, h4.later a⟩
theorem three_new {v1 v2 v3 : Value} {m : Qs} {x : World} (h : QR x v2 m) : Three v1 v3 m (.slice (some ⟨x.heap.size, 0, none⟩) 3 3) (x.alloc (.cells #[v1, v2, v3] 23)) := by
  have hz : (x.alloc (.cells #[v1, v2, v3] 23)).heap[x.heap.size]? = some (.cells #[v1, v2, v3] 23) := heap_new rfl
  exact ⟨_, v2, rfl, own_lt hz, (own_row hz 0).trans rfl, (own_row hz 1).trans rfl, (own_row hz 2).trans rfl, h.later ((AnyLater.refl x).alloc _)⟩
/-- a row of two lists -/
def IsPair (v1 v2 : Value) (u : Value) (w : World) : Prop := ∃ g, u = .slice (some ⟨g, 0, none⟩) 2 2 ∧ g < w.heap.size ∧ w.cell? ⟨g, 0, none⟩ = some v1 ∧ w.cell? ⟨g, 1, none⟩ = some v2
theorem IsPair.later {v1 v2 : Value} {u : Value} {w w' : World} (a : AnyLater w w') (h : IsPair v1 v2 u w) : IsPair v1 v2 u w' := by
  obtain ⟨g, e, h0, h1, h2⟩ := h
  exact ⟨g, e, Nat.lt_of_lt_of_le h0 a.below.size, cell_on a h1, cell_on a h2⟩
theorem pair_new {v1 v2 : Value} {x : World} : IsPair v1 v2 (.slice (some ⟨x.heap.size, 0, none⟩) 2 2) (x.alloc (.cells #[v1, v2] 23)) := by
  have hz : (x.alloc (.cells #[v1, v2] 23)).heap[x.heap.size]? = some (.cells #[v1, v2] 23) := heap_new rfl
  exact ⟨_, rfl, own_lt hz, (own_row hz 0).trans rfl, (own_row hz 1).trans rfl⟩
theorem RowS.qr {W : World} {l : Qs} {e : Ending} {w' : World} (h : RowS W l e w') : ∃ v, e = .returned v ∧ AnyLater W w' ∧ QR w' v l := by
  obtain ⟨v, h1, h2, h3⟩ := h
  exact ⟨v, h1, h2, OQ.rq h3⟩
set_option maxRecDepth 100000 in
theorem fadd_bad (v : Value) (l : Qs) (f t n : Int) (w : World) (hv : QR w v l) (hl : l.length ≤ 60000) (hg : goodZ n 0 l = false) :
    Calls Tryz.prog 35 #[v, .agg #[.int .i64 f, .int .i64 t], .int .i64 n] w (AddS l (f, t) n w) := by
  obtain ⟨hc, hL⟩ := addC_bad (s := (f, t)) (l := l) (n := n) (by rw [hg]; simp)
  have HE := Lib.hid (And.intro hc hL)
  have HG := Lib.hid (fun (w' : World) (h : AnyLater w w') => fgood_any v l n false w' hg (hv.later h) hl)
  obtain ⟨A, cap, rfl, -⟩ := hv.form
  clear hv hc hL hg hl
  generalize l.length = m at *
  go_enter Tryz.func35, Tryz.ntmps35
  go_wp2_with fail
  first | refine settle_wp (fun wS => AnyLater w wS ∧ wS.heap[w.heap.size]? = some (.cells #[.int .i64 f, .int .i64 t] 55)) ?_ ?_ | refine settle_calls (fun wS => AnyLater w wS ∧ wS.heap[w.heap.size]? = some (.cells #[.int .i64 f, .int .i64 t] 55)) ?_ ?_
  · refine ⟨?_, ?_⟩
    · repeat' (first | with_reducible assumption | with_reducible exact AnyLater.refl _ | with_reducible apply AnyLater.setCell | with_reducible apply AnyLater.later | with_reducible apply AnyLater.drewN | with_reducible apply AnyLater.drew | with_reducible apply AnyLater.alloc | ((try simp only [World.size_alloc, World.size_setCell, World.size_drew]); (try dsimp only); omega))
    · ((repeat (first | with_reducible assumption | ((with_reducible apply heap_new); (try simp only [World.size_alloc, World.size_setCell, World.size_drew, World.heap_drewN]); done) | ((with_reducible apply heap_new); (try simp only [World.size_alloc, World.size_setCell, World.size_drew, World.heap_drewN]); omega) | (with_reducible refine heap_old (by (try simp only [World.size_alloc, World.size_setCell, World.size_drew, World.heap_drewN]); omega) ?_) | (with_reducible refine heap_drew ?_) | (with_reducible refine heap_far (by omega) ?_) | (with_reducible apply heap_at))); all_goals rfl)
  rintro w1 ⟨b_w1, s0_w1⟩
  have a_w1 := b_w1
  have r0_w1 := own_row s0_w1
  have f0_w1 := own_free s0_w1
  have l0_w1 := own_lt s0_w1
  have z_w1 := b_w1.below.size
  refine (HG.out _ a_w1).mono ?_
  rintro e w2 ⟨rfl, b_w2⟩
  have z_w2 := b_w2.below.size
  have a_w2 := a_w1.trans b_w2
  have s0_w2 := any_own b_w2 s0_w1
  have r0_w2 := own_row s0_w2
  have f0_w2 := own_free s0_w2
  have l0_w2 := own_lt s0_w2
  (try clear r0_w1); (try clear f0_w1)
  go_wp2_with fail
  refine bodyPost_ret (v := .tuple #[.slice none 0 0, .int .i64 1]) (by simp [results, Tryz.results35, go_sem]) rfl ⟨_, by rw [HE.out.1], a_w2, by rw [HE.out.2]; exact QR.void _ _ _⟩
set_option maxRecDepth 100000 in
theorem fadd_unfair (v : Value) (l : Qs) (f t n : Int) (w : World) (hv : QR w v l) (hl : l.length ≤ 60000) (hg : goodZ n 0 l = true) (hf : fairZ n (f, t) = false) :
    Calls Tryz.prog 35 #[v, .agg #[.int .i64 f, .int .i64 t], .int .i64 n] w (AddS l (f, t) n w) := by
  obtain ⟨hc, hL⟩ := addC_bad (s := (f, t)) (l := l) (n := n) (by rw [hf]; simp)
  have HE := Lib.hid (And.intro hc hL)
  have HG := Lib.hid (fun (w' : World) (h : AnyLater w w') => fgood_any v l n true w' hg (hv.later h) hl)
  have HF := Lib.hid (fun (w' : World) u (h : QR w' u [(f, t)]) => fgood_any u [(f, t)] n false w' ((goodZ_one n _).trans hf) h (by simp))
  obtain ⟨A, cap, rfl, -⟩ := hv.form
  clear hv hc hL hg hf hl
  generalize l.length = m at *
  go_enter Tryz.func35, Tryz.ntmps35
  go_wp2_with fail
  first | refine settle_wp (fun wS => AnyLater w wS ∧ wS.heap[w.heap.size]? = some (.cells #[.int .i64 f, .int .i64 t] 55)) ?_ ?_ | refine settle_calls (fun wS => AnyLater w wS ∧ wS.heap[w.heap.size]? = some (.cells #[.int .i64 f, .int .i64 t] 55)) ?_ ?_
  · refine ⟨?_, ?_⟩
    · repeat' (first | with_reducible assumption | with_reducible exact AnyLater.refl _ | with_reducible apply AnyLater.setCell | with_reducible apply AnyLater.later | with_reducible apply AnyLater.drewN | with_reducible apply AnyLater.drew | with_reducible apply AnyLater.alloc | ((try simp only [World.size_alloc, World.size_setCell, World.size_drew]); (try dsimp only); omega))
    · ((repeat (first | with_reducible assumption | ((with_reducible apply heap_new); (try simp only [World.size_alloc, World.size_setCell, World.size_drew, World.heap_drewN]); done) | ((with_reducible apply heap_new); (try simp only [World.size_alloc, World.size_setCell, World.size_drew, World.heap_drewN]); omega) | (with_reducible refine heap_old (by (try simp only [World.size_alloc, World.size_setCell, World.size_drew, World.heap_drewN]); omega) ?_) | (with_reducible refine heap_drew ?_) | (with_reducible refine heap_far (by omega) ?_) | (with_reducible apply heap_at))); all_goals rfl)
  rintro w1 ⟨b_w1, s0_w1⟩
  have a_w1 := b_w1
  have r0_w1 := own_row s0_w1
  have f0_w1 := own_free s0_w1
  have l0_w1 := own_lt s0_w1
  have z_w1 := b_w1.below.size
  refine (HG.out _ a_w1).mono ?_
  rintro e w2 ⟨rfl, b_w2⟩
  have z_w2 := b_w2.below.size
  have a_w2 := a_w1.trans b_w2
  have s0_w2 := any_own b_w2 s0_w1
  have r0_w2 := own_row s0_w2
  have f0_w2 := own_free s0_w2
  have l0_w2 := own_lt s0_w2
  (try clear r0_w1); (try clear f0_w1)
  go_wp2_with fail
  first | refine settle_wp (fun wS => AnyLater w2 wS ∧ wS.heap[w2.heap.size]? = some (.cells #[.int .i64 f, .int .i64 t] 55)) ?_ ?_ | refine settle_calls (fun wS => AnyLater w2 wS ∧ wS.heap[w2.heap.size]? = some (.cells #[.int .i64 f, .int .i64 t] 55)) ?_ ?_
  · refine ⟨?_, ?_⟩
    · repeat' (first | with_reducible assumption | with_reducible exact AnyLater.refl _ | with_reducible apply AnyLater.setCell | with_reducible apply AnyLater.later | with_reducible apply AnyLater.drewN | with_reducible apply AnyLater.drew | with_reducible apply AnyLater.alloc | ((try simp only [World.size_alloc, World.size_setCell, World.size_drew]); (try dsimp only); omega))
    · ((repeat (first | with_reducible assumption | ((with_reducible apply heap_new); (try simp only [World.size_alloc, World.size_setCell, World.size_drew, World.heap_drewN]); done) | ((with_reducible apply heap_new); (try simp only [World.size_alloc, World.size_setCell, World.size_drew, World.heap_drewN]); omega) | (with_reducible refine heap_old (by (try simp only [World.size_alloc, World.size_setCell, World.size_drew, World.heap_drewN]); omega) ?_) | (with_reducible refine heap_drew ?_) | (with_reducible refine heap_far (by omega) ?_) | (with_reducible apply heap_at))); all_goals rfl)
  rintro w3 ⟨b_w3, s1_w3⟩
  have a_w3 := a_w2.trans b_w3
  have s0_w3 := any_own b_w3 s0_w2
  have r0_w3 := own_row s0_w3
  have f0_w3 := own_free s0_w3
  have l0_w3 := own_lt s0_w3
  (try clear r0_w2); (try clear f0_w2)
  have r1_w3 := own_row s1_w3
  have f1_w3 := own_free s1_w3
  have l1_w3 := own_lt s1_w3
  have z_w3 := b_w3.below.size
  refine (HF.out _ _ (OQ.rq (OQ.one (B := 0) (Nat.zero_le _) s1_w3))).mono ?_
  rintro e w4 ⟨rfl, b_w4⟩
  have z_w4 := b_w4.below.size
  have a_w4 := a_w3.trans b_w4
  have s0_w4 := any_own b_w4 s0_w3
  have s1_w4 := any_own b_w4 s1_w3
  have r0_w4 := own_row s0_w4
  have f0_w4 := own_free s0_w4
  have l0_w4 := own_lt s0_w4
  have r1_w4 := own_row s1_w4
  have f1_w4 := own_free s1_w4
  have l1_w4 := own_lt s1_w4
  (try clear r0_w3); (try clear f0_w3)
  (try clear r1_w3); (try clear f1_w3)
  go_wp2_with fail
  refine bodyPost_ret (v := .tuple #[.slice none 0 0, .int .i64 1]) (by simp [results, Tryz.results35, go_sem]) rfl ⟨_, by rw [HE.out.1], a_w4, by rw [HE.out.2]; exact QR.void _ _ _⟩
set_option maxRecDepth 100000 in
set_option maxHeartbeats 3200000 in
theorem fadd_fair (v : Value) (l : Qs) (f t n : Int) (w : World) (hv : QR w v l) (hl : l.length ≤ 60000) (hg : goodZ n 0 l = true) (hf : fairZ n (f, t) = true) :
    Calls Tryz.prog 35 #[v, .agg #[.int .i64 f, .int .i64 t], .int .i64 n] w (AddS l (f, t) n w) := by
  have HG := Lib.hid (fun (w' : World) (h : AnyLater w w') => fgood_any v l n true w' hg (hv.later h) hl)
  have HF := Lib.hid (fun (w' : World) u (h : QR w' u [(f, t)]) => fgood_any u [(f, t)] n true w' ((goodZ_one n _).trans hf) h (by simp))
  have HClash := Lib.hid (fun (h : clashZ (f, t) l = true) => addC_clash ⟨hg, hf⟩ h)
  have HOk := Lib.hid (fun (h : clashZ (f, t) l = false) => addC_ok ⟨hg, hf⟩ h)
  have HCl := Lib.hid (clash_at (s := (f, t)) hg)
  have HLt := Lib.hid (aheadZ_lt (f, t) l)
  have HAt := Lib.hid (aheadZ_at (f, t) l)
  have hal := aheadZ_le (f, t) l
  have HP : Hid (putZ (f, t) l = l.take (aheadZ (f, t) l) ++ [(f, t)] ++ l.drop (aheadZ (f, t) l)) := Lib.hid rfl
  generalize aheadZ (f, t) l = a at *
  obtain ⟨A1, cap1, p1, k1⟩ := hv.uptoQ pairSpan a hal
  obtain ⟨u3, p3, k3⟩ := hv.cutQ pairSpan a hal
  have K1 := Lib.hid k1
  have K3 := Lib.hid k3
  have HCat := Lib.hid (fun (x : World) (u : Value) (hx : AnyLater w x) (h : Three (.slice A1 a cap1) u3 [(f, t)] u x) => (show Calls Tryz.prog 54 #[u] x (fun e w' => ∃ y, e = .returned y ∧ AnyLater x w' ∧ QR w' y (l.take a ++ [(f, t)] ++ l.drop a)) from by
    obtain ⟨g, v2, rfl, h0, h1, h2, h3, h4⟩ := h
    exact (qcat_three g _ v2 u3 _ _ _ x h0 h1 h2 h3 (p1.later hx) h4 (p3.later hx) (by rw [List.length_take, List.length_drop]; simp; omega)).mono fun _ _ q => q.qr))
  obtain ⟨A3, cap3, rfl, -⟩ := p3.form
  obtain ⟨A, cap, rfl, h2, h3⟩ := hv
  have HCC : Hid (∀ (j : Nat) (h : j < l.length), ∃ b off, A = some ⟨b, off, none⟩ ∧ b < w.heap.size ∧ w.cell? ⟨b, off + j * 2, none⟩ = some (.int .i64 l[j].1) ∧ w.cell? ⟨b, off + j * 2 + 1, none⟩ = some (.int .i64 l[j].2)) := Lib.hid (fun j hj => by
    obtain ⟨b, off, e, hb, hc⟩ := h3 (by omega)
    exact ⟨b, off, e, hb, hc j hj⟩)
  obtain ⟨m3, hm3⟩ : ∃ m3, (l.drop a).length = m3 := ⟨_, rfl⟩
  rw [hm3] at K3 HCat
  obtain ⟨m, hm⟩ : ∃ m, l.length = m := ⟨_, rfl⟩
  have HN := Lib.hid hm
  rw [hm] at h2 hl hal K1 K3 HG ⊢
  clear h3 hm hg hf p1 p3 k1 k3 hm3
  go_enter Tryz.func35, Tryz.ntmps35
  go_wp2_with fail
  first | refine settle_wp (fun wS => AnyLater w wS ∧ wS.heap[w.heap.size]? = some (.cells #[.int .i64 f, .int .i64 t] 55)) ?_ ?_ | refine settle_calls (fun wS => AnyLater w wS ∧ wS.heap[w.heap.size]? = some (.cells #[.int .i64 f, .int .i64 t] 55)) ?_ ?_
  · refine ⟨?_, ?_⟩
    · repeat' (first | with_reducible assumption | with_reducible exact AnyLater.refl _ | with_reducible apply AnyLater.setCell | with_reducible apply AnyLater.later | with_reducible apply AnyLater.drewN | with_reducible apply AnyLater.drew | with_reducible apply AnyLater.alloc | ((try simp only [World.size_alloc, World.size_setCell, World.size_drew]); (try dsimp only); omega))
    · ((repeat (first | with_reducible assumption | ((with_reducible apply heap_new); (try simp only [World.size_alloc, World.size_setCell, World.size_drew, World.heap_drewN]); done) | ((with_reducible apply heap_new); (try simp only [World.size_alloc, World.size_setCell, World.size_drew, World.heap_drewN]); omega) | (with_reducible refine heap_old (by (try simp only [World.size_alloc, World.size_setCell, World.size_drew, World.heap_drewN]); omega) ?_) | (with_reducible refine heap_drew ?_) | (with_reducible refine heap_far (by omega) ?_) | (with_reducible apply heap_at))); all_goals rfl)
  rintro w1 ⟨b_w1, s0_w1⟩
  have a_w1 := b_w1
  have r0_w1 := own_row s0_w1
  have f0_w1 := own_free s0_w1
  have l0_w1 := own_lt s0_w1
  have z_w1 := b_w1.below.size
  refine (HG.out _ a_w1).mono ?_
  rintro e w2 ⟨rfl, b_w2⟩
  have z_w2 := b_w2.below.size
  have a_w2 := a_w1.trans b_w2
  have s0_w2 := any_own b_w2 s0_w1
  have r0_w2 := own_row s0_w2
  have f0_w2 := own_free s0_w2
  have l0_w2 := own_lt s0_w2
  (try clear r0_w1); (try clear f0_w1)
  go_wp2_with fail
  first | refine settle_wp (fun wS => AnyLater w2 wS ∧ wS.heap[w2.heap.size]? = some (.cells #[.int .i64 f, .int .i64 t] 55)) ?_ ?_ | refine settle_calls (fun wS => AnyLater w2 wS ∧ wS.heap[w2.heap.size]? = some (.cells #[.int .i64 f, .int .i64 t] 55)) ?_ ?_
  · refine ⟨?_, ?_⟩
    · repeat' (first | with_reducible assumption | with_reducible exact AnyLater.refl _ | with_reducible apply AnyLater.setCell | with_reducible apply AnyLater.later | with_reducible apply AnyLater.drewN | with_reducible apply AnyLater.drew | with_reducible apply AnyLater.alloc | ((try simp only [World.size_alloc, World.size_setCell, World.size_drew]); (try dsimp only); omega))
    · ((repeat (first | with_reducible assumption | ((with_reducible apply heap_new); (try simp only [World.size_alloc, World.size_setCell, World.size_drew, World.heap_drewN]); done) | ((with_reducible apply heap_new); (try simp only [World.size_alloc, World.size_setCell, World.size_drew, World.heap_drewN]); omega) | (with_reducible refine heap_old (by (try simp only [World.size_alloc, World.size_setCell, World.size_drew, World.heap_drewN]); omega) ?_) | (with_reducible refine heap_drew ?_) | (with_reducible refine heap_far (by omega) ?_) | (with_reducible apply heap_at))); all_goals rfl)
  rintro w3 ⟨b_w3, s1_w3⟩
  have a_w3 := a_w2.trans b_w3
  have s0_w3 := any_own b_w3 s0_w2
  have r0_w3 := own_row s0_w3
  have f0_w3 := own_free s0_w3
  have l0_w3 := own_lt s0_w3
  (try clear r0_w2); (try clear f0_w2)
  have r1_w3 := own_row s1_w3
  have f1_w3 := own_free s1_w3
  have l1_w3 := own_lt s1_w3
  have z_w3 := b_w3.below.size
  refine (HF.out _ _ (OQ.rq (OQ.one (B := 0) (Nat.zero_le _) s1_w3))).mono ?_
  rintro e w4 ⟨rfl, b_w4⟩
  have z_w4 := b_w4.below.size
  have a_w4 := a_w3.trans b_w4
  have s0_w4 := any_own b_w4 s0_w3
  have s1_w4 := any_own b_w4 s1_w3
  have r0_w4 := own_row s0_w4
  have f0_w4 := own_free s0_w4
  have l0_w4 := own_lt s0_w4
  have r1_w4 := own_row s1_w4
  have f1_w4 := own_free s1_w4
  have l1_w4 := own_lt s1_w4
  (try clear r0_w3); (try clear f0_w3)
  (try clear r1_w3); (try clear f1_w3)
  clear HG HF
  go_wp2_with fail
  go_loopg [8] (m + 1) (fun k iv wr => ∃ j : Nat, k = m + 1 - j ∧ j ≤ a ∧ iv = .int .i64 (j : Int) ∧ AnyLater w4 wr)
  case atStart => exact ⟨0, by omega, by omega, rfl, AnyLater.refl _⟩
  case round =>
    obtain ⟨j, hk, hj, rfl, b_wr⟩ := hrel
    have a_wr := a_w4.trans b_wr
    have s0_wr := any_own b_wr s0_w4
    have r0_wr := own_row s0_wr
    have l0_wr := own_lt s0_wr
    have HBw := Lib.hid b_wr
    by_cases hlt : j < a
    · have lj : j < l.length := by rw [HN.out]; omega
      obtain ⟨b, off, rfl, hb, k0, k1⟩ := HCC.out j lj
      have c0 : wr.cell? ⟨b, off + j * 2, none⟩ = some (.int .i64 l[j].1) := (a_wr.below.cell hb).trans k0
      have c1 : wr.cell? ⟨b, off + j * 2 + 1, none⟩ = some (.int .i64 l[j].2) := (a_wr.below.cell hb).trans k1
      have i1 := HLt.out j lj hlt
      have i0 : (j : Int) < (m : Int) := by omega
      clear k0 k1
      generalize l[j] = x at *
      obtain ⟨f2, t2⟩ := x
      simp only at c0 c1 i1
      go_wp2_with fail
      go_quiet (fail)
      go_wp2_with fail
      go_roundg (m + 1 - (j + 1))
      case measure => omega
      case rel => exact ⟨j + 1, rfl, hlt, by go_num, HBw.out.drewN _⟩
    · obtain rfl : j = a := by omega
      have e1 : ((m : Int) == 65536) = false := by simp; omega
      rcases Nat.lt_or_ge j m with hm | hm
      · have lj : j < l.length := by rw [HN.out]; exact hm
        obtain ⟨b, off, rfl, hb, k0, k1⟩ := HCC.out j lj
        have c0 : wr.cell? ⟨b, off + j * 2, none⟩ = some (.int .i64 l[j].1) := (a_wr.below.cell hb).trans k0
        have c1 : wr.cell? ⟨b, off + j * 2 + 1, none⟩ = some (.int .i64 l[j].2) := (a_wr.below.cell hb).trans k1
        have i1 : decide (l[j].2 ≤ f) = false := decide_eq_false (by have := HAt.out lj; omega)
        have i0 : (j : Int) < (m : Int) := by omega
        have HQ : Hid (clashZ (f, t) l = true ↔ l[j].1 < t) := Lib.hid (HCl.out.trans ⟨fun ⟨_, h⟩ => h, fun h => ⟨lj, h⟩⟩)
        clear k0 k1
        generalize l[j] = x at *
        obtain ⟨f2, t2⟩ := x
        simp only at c0 c1 i1
        by_cases h1 : f2 < t
        · have HE := Lib.hid (HClash.out (HQ.out.2 h1))
          go_wp2_with fail
          go_quiet (fail)
          go_wp2_with fail
          go_quiet (fail)
          go_wp2_with fail
          refine bodyPost_ret (v := .tuple #[.slice none 0 0, .int .i64 4]) (by simp [results, Tryz.results35, go_sem]) rfl ⟨_, by rw [HE.out.1], (a_wr.drewN _).drewN _, by rw [HE.out.2]; exact QR.void _ _ _⟩
        · have i2 : decide (f2 < t) = false := decide_eq_false h1
          have HE := Lib.hid (HOk.out (Bool.eq_false_iff.2 fun q => h1 (HQ.out.1 q)))
          go_wp2_with fail
          go_quiet (fail)
          go_wp2_with fail
          go_quiet (fail)
          go_wp2_with fail
          refine settle_wp (fun wS => AnyLater wr wS) ((AnyLater.refl wr).drewN _) ?_
          rintro w5 b_w5
          have z_w5 := b_w5.below.size
          have a_w5 := a_wr.trans b_w5
          have s0_w5 := any_own b_w5 s0_wr
          have r0_w5 := own_row s0_w5
          have f0_w5 := own_free s0_w5
          have l0_w5 := own_lt s0_w5
          (try clear r0_wr); (try clear f0_wr)
          clear c0 c1
          apply Wild.wp_region_free (12) [⟨2, 55, .slice A1 j cap1, false, fun v _ => v = .slice A1 j cap1⟩, ⟨4, 57, undef, true, fun u w => QR w u [(f, t)]⟩, ⟨7, 60, .slice A3 m3 cap3, false, fun v _ => v = .slice A3 m3 cap3⟩, ⟨8, 61, undef, true, Three (.slice A1 j cap1) (.slice A3 m3 cap3) [(f, t)]⟩, ⟨9, 62, undef, true, fun u w => QR w u (l.take j ++ [(f, t)] ++ l.drop j)⟩, ⟨10, 6, undef, true, fun u w => QR w u (l.take j ++ [(f, t)] ++ l.drop j)⟩] [⟨4, 57, fun u w => QR w u [(f, t)]⟩, ⟨8, 61, Three (.slice A1 j cap1) (.slice A3 m3 cap3) [(f, t)]⟩, ⟨9, 62, fun u w => QR w u (l.take j ++ [(f, t)] ++ l.drop j)⟩, ⟨10, 6, fun u w => QR w u (l.take j ++ [(f, t)] ++ l.drop j)⟩] rfl (by kernel_rfl) (by kernel_rfl) (by kernel_rfl) (by simp) (by kernel_rfl)
          case hstab =>
            intro c hc
            simp only [List.mem_cons, List.not_mem_nil, or_false] at hc
            rcases hc with rfl | rfl | rfl | rfl | rfl | rfl
            · intro v x y hxy hv; exact hv
            · intro v x y hxy hv; exact (fun h k => QR.later k h) hxy hv
            · intro v x y hxy hv; exact hv
            · intro v x y hxy hv; exact (fun h k => Three.later h k) hxy hv
            · intro v x y hxy hv; exact (fun h k => QR.later k h) hxy hv
            · intro v x y hxy hv; exact (fun h k => QR.later k h) hxy hv
          case hfix =>
            intro c hc
            simp only [List.mem_cons, List.not_mem_nil, or_false] at hc
            rcases hc with rfl | rfl | rfl | rfl | rfl | rfl
            · exact .inr fun u x h => h
            · exact .inl rfl
            · exact .inr fun u x h => h
            · exact .inl rfl
            · exact .inl rfl
            · exact .inl rfl
          case hlex =>
            intro U hU
            have q0 := own_row (any_own hU s0_w5)
            simp only [List.map_cons, List.map_nil, CA.act, actFrom, actOp, List.lookup, Nat.reduceBEq, Nat.reduceLeDiff, Nat.reduceAdd, if_false, if_true]
            repeat (go_big_quiet_step (fail))
            exact wpQuiet_nil rfl
          case hstep =>
            intro j hj o ho
            have hj2 : j = 0 ∨ j = 1 ∨ j = 2 ∨ j = 3 ∨ j = 4 ∨ j = 5 := by simp at hj; omega
            rcases hj2 with rfl | rfl | rfl | rfl | rfl | rfl
            · cases ho
              refine ⟨rfl, fun g x hx hp => ?_⟩
              clear hp
              simp only [fillAll, Act.put, List.setIfInBounds_toArray, List.set_cons_zero, List.set_cons_succ]
              (refine Wild.free_op ?_; simp [go_sem, execOp, K1.out])
            · cases ho
              refine ⟨rfl, fun g x hx hp => ?_⟩
              clear hp
              simp only [fillAll, Act.put, List.setIfInBounds_toArray, List.set_cons_zero, List.set_cons_succ]
              refine Wild.free_make (v := .slice (some ⟨x.heap.size, 0, none⟩) 1 1) (w' := x.alloc (.cells #[.int .i64 f, .int .i64 t] 55)) (by simp [go_sem, execOp]) ((AnyLater.refl x).alloc _) (OQ.rq (OQ.one (B := 0) (r := (f, t)) (Nat.zero_le _) (heap_new rfl)))
            · cases ho
              refine ⟨rfl, fun g x hx hp => ?_⟩
              clear hp
              simp only [fillAll, Act.put, List.setIfInBounds_toArray, List.set_cons_zero, List.set_cons_succ]
              (refine Wild.free_op ?_; simp [go_sem, execOp, K3.out])
            · cases ho
              refine ⟨rfl, fun g x hx hp => ?_⟩
              have p57 : (fun u w => QR w u [(f, t)]) (g 4) x := hp _ (List.mem_of_getElem? (i := 0) rfl) (List.contains_iff_mem.1 (by kernel_rfl))
              clear hp
              simp only [fillAll, Act.put, List.setIfInBounds_toArray, List.set_cons_zero, List.set_cons_succ]
              (obtain ⟨A7, c7, e7, -⟩ := p57.form; refine Wild.free_make (v := .slice (some ⟨x.heap.size, 0, none⟩) 3 3) (w' := x.alloc (.cells #[.slice A1 j cap1, .slice A7 1 c7, .slice A3 m3 cap3] 23)) (by simp [go_sem, execOp, e7]) ((AnyLater.refl x).alloc _) (three_new (by have q : QR x (g 4) [(f, t)] := p57; rw [e7] at q; exact q)))
            · cases ho
              refine ⟨rfl, fun g x hx hp => ?_⟩
              have p61 : (Three (.slice A1 j cap1) (.slice A3 m3 cap3) [(f, t)]) (g 8) x := hp _ (List.mem_of_getElem? (i := 1) rfl) (List.contains_iff_mem.1 (by kernel_rfl))
              clear hp
              simp only [fillAll, Act.put, List.setIfInBounds_toArray, List.set_cons_zero, List.set_cons_succ]
              refine chain_go ?_ (Wild.free_tells (HCat.out x _ (a_w5.trans hx) p61))
              simp [go_sem, execOp]
            · cases ho
              refine ⟨rfl, fun g x hx hp => ?_⟩
              have p62 : (fun u w => QR w u (l.take j ++ [(f, t)] ++ l.drop j)) (g 9) x := hp _ (List.mem_of_getElem? (i := 2) rfl) (List.contains_iff_mem.1 (by kernel_rfl))
              clear hp
              simp only [fillAll, Act.put, List.setIfInBounds_toArray, List.set_cons_zero, List.set_cons_succ]
              refine Wild.free_is (v := g 9) ?_ p62; simp [go_sem, execOp]
          case htail =>
            intro g u hst hne
            have b_w6 : AnyLater w5 (later u) := ⟨u, rfl⟩
            generalize later u = w6 at *
            clear u hne
            obtain ⟨p57_w6, -⟩ := hst _ (List.mem_of_getElem? (i := 0) rfl)
            (try dsimp only at p57_w6)
            obtain ⟨p61_w6, -⟩ := hst _ (List.mem_of_getElem? (i := 1) rfl)
            (try dsimp only at p61_w6)
            obtain ⟨p62_w6, -⟩ := hst _ (List.mem_of_getElem? (i := 2) rfl)
            (try dsimp only at p62_w6)
            obtain ⟨p6_w6, -⟩ := hst _ (List.mem_of_getElem? (i := 3) rfl)
            (try dsimp only at p6_w6)
            clear hst
            simp only [fillAll, Act.put, List.setIfInBounds_toArray, List.set_cons_zero, List.set_cons_succ, List.drop_succ_cons, List.drop_zero, List.drop_nil]
            generalize g 4 = v57 at *
            generalize g 8 = v61 at *
            generalize g 9 = v62 at *
            generalize g 10 = v6 at *
            have z_w6 := b_w6.below.size
            have a_w6 := a_w5.trans b_w6
            have s0_w6 := any_own b_w6 s0_w5
            have r0_w6 := own_row s0_w6
            have f0_w6 := own_free s0_w6
            have l0_w6 := own_lt s0_w6
            (try clear r0_w5); (try clear f0_w5)
            go_wp2_with fail
            refine bodyPost_ret (v := .tuple #[v6, .int .i64 0]) (by simp [results, Tryz.results35, go_sem]) rfl ⟨_, by rw [HE.out.1], a_w6, by rw [HE.out.2, HP.out]; exact p6_w6⟩
      · obtain rfl : j = m := by omega
        have i0 : decide ((j : Int) < (j : Int)) = false := by simp
        have HE := Lib.hid (HOk.out (Bool.eq_false_iff.2 fun q => by obtain ⟨h, _⟩ := HCl.out.1 q; rw [HN.out] at h; omega))
        go_wp2_with fail
        go_quiet (fail)
        go_wp2_with fail
        go_quiet (fail)
        go_wp2_with fail
        refine settle_wp (fun wS => AnyLater wr wS) ((AnyLater.refl wr).drewN _) ?_
        rintro w5 b_w5
        have z_w5 := b_w5.below.size
        have a_w5 := a_wr.trans b_w5
        have s0_w5 := any_own b_w5 s0_wr
        have r0_w5 := own_row s0_w5
        have f0_w5 := own_free s0_w5
        have l0_w5 := own_lt s0_w5
        (try clear r0_wr); (try clear f0_wr)
        apply Wild.wp_region_free (12) [⟨2, 55, .slice A1 j cap1, false, fun v _ => v = .slice A1 j cap1⟩, ⟨4, 57, undef, true, fun u w => QR w u [(f, t)]⟩, ⟨7, 60, .slice A3 m3 cap3, false, fun v _ => v = .slice A3 m3 cap3⟩, ⟨8, 61, undef, true, Three (.slice A1 j cap1) (.slice A3 m3 cap3) [(f, t)]⟩, ⟨9, 62, undef, true, fun u w => QR w u (l.take j ++ [(f, t)] ++ l.drop j)⟩, ⟨10, 6, undef, true, fun u w => QR w u (l.take j ++ [(f, t)] ++ l.drop j)⟩] [⟨4, 57, fun u w => QR w u [(f, t)]⟩, ⟨8, 61, Three (.slice A1 j cap1) (.slice A3 m3 cap3) [(f, t)]⟩, ⟨9, 62, fun u w => QR w u (l.take j ++ [(f, t)] ++ l.drop j)⟩, ⟨10, 6, fun u w => QR w u (l.take j ++ [(f, t)] ++ l.drop j)⟩] rfl (by kernel_rfl) (by kernel_rfl) (by kernel_rfl) (by simp) (by kernel_rfl)
        case hstab =>
          intro c hc
          simp only [List.mem_cons, List.not_mem_nil, or_false] at hc
          rcases hc with rfl | rfl | rfl | rfl | rfl | rfl
          · intro v x y hxy hv; exact hv
          · intro v x y hxy hv; exact (fun h k => QR.later k h) hxy hv
          · intro v x y hxy hv; exact hv
          · intro v x y hxy hv; exact (fun h k => Three.later h k) hxy hv
          · intro v x y hxy hv; exact (fun h k => QR.later k h) hxy hv
          · intro v x y hxy hv; exact (fun h k => QR.later k h) hxy hv
        case hfix =>
          intro c hc
          simp only [List.mem_cons, List.not_mem_nil, or_false] at hc
          rcases hc with rfl | rfl | rfl | rfl | rfl | rfl
          · exact .inr fun u x h => h
          · exact .inl rfl
          · exact .inr fun u x h => h
          · exact .inl rfl
          · exact .inl rfl
          · exact .inl rfl
        case hlex =>
          intro U hU
          have q0 := own_row (any_own hU s0_w5)
          simp only [List.map_cons, List.map_nil, CA.act, actFrom, actOp, List.lookup, Nat.reduceBEq, Nat.reduceLeDiff, Nat.reduceAdd, if_false, if_true]
          repeat (go_big_quiet_step (fail))
          exact wpQuiet_nil rfl
        case hstep =>
          intro j hj o ho
          have hj2 : j = 0 ∨ j = 1 ∨ j = 2 ∨ j = 3 ∨ j = 4 ∨ j = 5 := by simp at hj; omega
          rcases hj2 with rfl | rfl | rfl | rfl | rfl | rfl
          · cases ho
            refine ⟨rfl, fun g x hx hp => ?_⟩
            clear hp
            simp only [fillAll, Act.put, List.setIfInBounds_toArray, List.set_cons_zero, List.set_cons_succ]
            (refine Wild.free_op ?_; simp [go_sem, execOp, K1.out])
          · cases ho
            refine ⟨rfl, fun g x hx hp => ?_⟩
            clear hp
            simp only [fillAll, Act.put, List.setIfInBounds_toArray, List.set_cons_zero, List.set_cons_succ]
            refine Wild.free_make (v := .slice (some ⟨x.heap.size, 0, none⟩) 1 1) (w' := x.alloc (.cells #[.int .i64 f, .int .i64 t] 55)) (by simp [go_sem, execOp]) ((AnyLater.refl x).alloc _) (OQ.rq (OQ.one (B := 0) (r := (f, t)) (Nat.zero_le _) (heap_new rfl)))
          · cases ho
            refine ⟨rfl, fun g x hx hp => ?_⟩
            clear hp
            simp only [fillAll, Act.put, List.setIfInBounds_toArray, List.set_cons_zero, List.set_cons_succ]
            (refine Wild.free_op ?_; simp [go_sem, execOp, K3.out])
          · cases ho
            refine ⟨rfl, fun g x hx hp => ?_⟩
            have p57 : (fun u w => QR w u [(f, t)]) (g 4) x := hp _ (List.mem_of_getElem? (i := 0) rfl) (List.contains_iff_mem.1 (by kernel_rfl))
            clear hp
            simp only [fillAll, Act.put, List.setIfInBounds_toArray, List.set_cons_zero, List.set_cons_succ]
            (obtain ⟨A7, c7, e7, -⟩ := p57.form; refine Wild.free_make (v := .slice (some ⟨x.heap.size, 0, none⟩) 3 3) (w' := x.alloc (.cells #[.slice A1 j cap1, .slice A7 1 c7, .slice A3 m3 cap3] 23)) (by simp [go_sem, execOp, e7]) ((AnyLater.refl x).alloc _) (three_new (by have q : QR x (g 4) [(f, t)] := p57; rw [e7] at q; exact q)))
          · cases ho
            refine ⟨rfl, fun g x hx hp => ?_⟩
            have p61 : (Three (.slice A1 j cap1) (.slice A3 m3 cap3) [(f, t)]) (g 8) x := hp _ (List.mem_of_getElem? (i := 1) rfl) (List.contains_iff_mem.1 (by kernel_rfl))
            clear hp
            simp only [fillAll, Act.put, List.setIfInBounds_toArray, List.set_cons_zero, List.set_cons_succ]
            refine chain_go ?_ (Wild.free_tells (HCat.out x _ (a_w5.trans hx) p61))
            simp [go_sem, execOp]
          · cases ho
            refine ⟨rfl, fun g x hx hp => ?_⟩
            have p62 : (fun u w => QR w u (l.take j ++ [(f, t)] ++ l.drop j)) (g 9) x := hp _ (List.mem_of_getElem? (i := 2) rfl) (List.contains_iff_mem.1 (by kernel_rfl))
            clear hp
            simp only [fillAll, Act.put, List.setIfInBounds_toArray, List.set_cons_zero, List.set_cons_succ]
            refine Wild.free_is (v := g 9) ?_ p62; simp [go_sem, execOp]
        case htail =>
          intro g u hst hne
          have b_w6 : AnyLater w5 (later u) := ⟨u, rfl⟩
          generalize later u = w6 at *
          clear u hne
          obtain ⟨p57_w6, -⟩ := hst _ (List.mem_of_getElem? (i := 0) rfl)
          (try dsimp only at p57_w6)
          obtain ⟨p61_w6, -⟩ := hst _ (List.mem_of_getElem? (i := 1) rfl)
          (try dsimp only at p61_w6)
          obtain ⟨p62_w6, -⟩ := hst _ (List.mem_of_getElem? (i := 2) rfl)
          (try dsimp only at p62_w6)
          obtain ⟨p6_w6, -⟩ := hst _ (List.mem_of_getElem? (i := 3) rfl)
          (try dsimp only at p6_w6)
          clear hst
          simp only [fillAll, Act.put, List.setIfInBounds_toArray, List.set_cons_zero, List.set_cons_succ, List.drop_succ_cons, List.drop_zero, List.drop_nil]
          generalize g 4 = v57 at *
          generalize g 8 = v61 at *
          generalize g 9 = v62 at *
          generalize g 10 = v6 at *
          have z_w6 := b_w6.below.size
          have a_w6 := a_w5.trans b_w6
          have s0_w6 := any_own b_w6 s0_w5
          have r0_w6 := own_row s0_w6
          have f0_w6 := own_free s0_w6
          have l0_w6 := own_lt s0_w6
          (try clear r0_w5); (try clear f0_w5)
          go_wp2_with fail
          refine bodyPost_ret (v := .tuple #[v6, .int .i64 0]) (by simp [results, Tryz.results35, go_sem]) rfl ⟨_, by rw [HE.out.1], a_w6, by rw [HE.out.2, HP.out]; exact p6_w6⟩
theorem fadd_any (v : Value) (l : Qs) (f t n : Int) (w : World) (hv : QR w v l) (hl : l.length ≤ 60000) :
    Calls Tryz.prog 35 #[v, .agg #[.int .i64 f, .int .i64 t], .int .i64 n] w (AddS l (f, t) n w) := by
  cases hg : goodZ n 0 l with
  | false => exact fadd_bad v l f t n w hv hl hg
  | true =>
    cases hf : fairZ n (f, t) with
    | false => exact fadd_unfair v l f t n w hv hl hg hf
    | true => exact fadd_fair v l f t n w hv hl hg hf
end Go.Proofs.YtiicaldnegcdiaaGreat
