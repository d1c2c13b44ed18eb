/- folds, the program: Drop, hides, Hidden, hiding, Hides, Heads by contract. -/
import Derived.Test.YtiicaldnegcdiaaGreatFldC
import Derived.Test.YtiicaldnegcdiaaGreatTxtC
import Derived.Test.YtiicaldnegcdiaaGreatBandsB
namespace Go.Proofs.YtiicaldnegcdiaaGreat
set_option linter.unusedSimpArgs false
set_option linter.unusedVariables false
set_option linter.unusedSectionVars false
open Go.RowKit

/-! ### Drop -/
/-- what Drop answers -/
def hasP (y : Int) (s : Int × Int) : Bool := decide (s.1 ≤ y ∧ y < s.2)
def dropC (l : Qs) (y : Int) : Int := if l.any (hasP y) = true then 0 else 3
def dropL (l : Qs) (y : Int) : Qs := if l.any (hasP y) = true then l.take (l.findIdx (hasP y)) ++ l.drop (l.findIdx (hasP y) + 1) else []
def DropS (l : Qs) (y : Int) (W : World) (e : Ending) (w' : World) : Prop := ∃ u, e = .returned (.tuple #[u, .int .i64 (dropC l y)]) ∧ AnyLater W w' ∧ QR w' u (dropL l y)
theorem drop_none {l : Qs} {y : Int} (h : l.any (hasP y) = false) : dropC l y = 3 ∧ dropL l y = [] := by unfold dropC dropL; rw [if_neg (by rw [h]; decide), if_neg (by rw [h]; decide)]; exact ⟨rfl, rfl⟩
theorem drop_at {l : Qs} {y : Int} {j : Nat} (h : j < l.length) (hf : (l.take j).any (hasP y) = false) (hp : hasP y l[j] = true) : dropC l y = 0 ∧ dropL l y = l.take j ++ l.drop (j + 1) := by
  have h1 : l.any (hasP y) = true := List.any_eq_true.2 ⟨_, List.getElem_mem h, hp⟩
  have h2 := idxV_at h hf hp
  unfold idxV at h2
  rw [if_pos h1] at h2
  have h3 : l.findIdx (hasP y) = j := by omega
  unfold dropC dropL
  rw [if_pos h1, if_pos h1, h3]
  exact ⟨rfl, rfl⟩
/-! ### the line of any place -/
def placeK (F : List Int) (n x : Int) : Int := if 0 ≤ x ∧ x ≤ n then ((below x F : Nat) : Int) else 0
def placeC (F : List Int) (n x : Int) : Int := if 0 ≤ x ∧ x ≤ n then x - lnS F (below x F) else 0
theorem fplace_any (tg g : Nat) (most : Int) (t : Tr) (x k c : Int) (b : Bool) (w : World) (h : IsTx w tg g most t) (ok : t.Ok) (hk : placeK (fds t) t.len x = k) (hc : placeC (fds t) t.len x = c) (hb : decide (0 ≤ x ∧ x ≤ (t.len : Int)) = b) :
    Calls Tryz.prog 36 #[.pointer (some ⟨tg, 0, none⟩), .int .i64 x] w fun e w' => e = .returned (.tuple #[.int .i64 k, .int .i64 c, .bool b]) ∧ AnyLater w w' := by
  subst hk hc hb
  unfold placeK placeC
  by_cases hx : 0 ≤ x ∧ x ≤ (t.len : Int)
  · rw [if_pos hx, if_pos hx, decide_eq_true hx]
    obtain ⟨X, rfl⟩ := Int.eq_ofNat_of_zero_le hx.1
    obtain ⟨b1, b2, b3, b4⟩ := below_ln (F := fds t) hx.1 hx.2
    have h0 := (fds_ok t).s0 b1
    exact tplace_yes tg g most t X _ _ w h ok (by omega) rfl rfl ⟨h0, b2⟩ (by rw [← fds_len t]; exact b1)
  · rw [if_neg hx, if_neg hx, decide_eq_false hx]
    exact tplace_no tg g most t x w h (by omega)

/-! ### hides -/
set_option maxRecDepth 100000 in
theorem fhides_any (f e0 : Int) (tg g : Nat) (most : Int) (t : Tr) (c : Int × Int) (w : World) (h : IsTx w tg g most t) (ok : t.Ok) (hc : bandS (fds t) t.len (f, e0) = c) :
    Calls Tryz.prog 24 #[.agg #[.int .i64 f, .int .i64 e0], .pointer (some ⟨tg, 0, none⟩)] w fun e w' => e = .returned (.agg #[.int .i64 c.1, .int .i64 c.2]) ∧ AnyLater w w' := by
  have HP := Lib.hid (fun (w' : World) (x k c : Int) (b : Bool) (a : AnyLater w w') => fplace_any tg g most t x k c b w' (h.later a) ok)
  have hF : (fds t).length ≤ 60000 := by rw [fds_len]; exact ok.nf
  obtain ⟨k1, hk1⟩ : ∃ k, placeK (fds t) t.len f = k := ⟨_, rfl⟩
  obtain ⟨c1, hc1⟩ : ∃ k, placeC (fds t) t.len f = k := ⟨_, rfl⟩
  obtain ⟨k2, hk2⟩ : ∃ k, placeK (fds t) t.len e0 = k := ⟨_, rfl⟩
  obtain ⟨c2, hc2⟩ : ∃ k, placeC (fds t) t.len e0 = k := ⟨_, rfl⟩
  have HK := Lib.hid (And.intro (And.intro hk1 hc1) (And.intro hk2 hc2))
  have l1 := below_le (fds t) f
  have l2 := below_le (fds t) e0
  have hb1 : 0 ≤ k1 ∧ k1 ≤ 60000 := by rw [← hk1]; unfold placeK; split <;> omega
  have hb2 : 0 ≤ k2 ∧ k2 ≤ 60000 := by rw [← hk2]; unfold placeK; split <;> omega
  unfold placeK at hk1 hk2
  unfold bandS at hc
  simp only at hc
  by_cases q1 : 0 ≤ f ∧ f ≤ (t.len : Int)
  · rw [if_pos q1] at hk1
    have HQ1 := Lib.hid (decide_eq_true q1)
    by_cases q2 : 0 ≤ e0 ∧ e0 ≤ (t.len : Int)
    · rw [if_pos q2] at hk2
      rw [if_pos ⟨q1.1, q1.2, q2.1, q2.2⟩, hk1, hk2] at hc
      have HC := Lib.hid hc
      have HQ2 := Lib.hid (decide_eq_true q2)
      clear h ok hF hk1 hk2 hc1 hc2 hc l1 l2 q1 q2
      go_enter Tryz.func24, Tryz.ntmps24
      go_wp2_with fail
      first | refine settle_wp (fun wS => AnyLater w wS ∧ wS.heap[w.heap.size]? = some (.cells #[.int .i64 f, .int .i64 e0] 55) ∧ wS.heap[w.heap.size + 1]? = some (.cells #[.int .i64 0, .int .i64 0] 56)) ?_ ?_ | refine settle_calls (fun wS => AnyLater w wS ∧ wS.heap[w.heap.size]? = some (.cells #[.int .i64 f, .int .i64 e0] 55) ∧ wS.heap[w.heap.size + 1]? = some (.cells #[.int .i64 0, .int .i64 0] 56)) ?_ ?_
      · refine ⟨?_, ?_, ?_⟩
        · repeat' (first | with_reducible assumption | with_reducible exact AnyLater.refl _ | with_reducible apply AnyLater.setCell | with_reducible apply AnyLater.later | with_reducible apply AnyLater.drewN | with_reducible apply AnyLater.drew | with_reducible apply AnyLater.alloc | ((try simp only [World.size_alloc, World.size_setCell, World.size_drew]); (try dsimp only); omega))
        · ((repeat (first | with_reducible assumption | ((with_reducible apply heap_new); (try simp only [World.size_alloc, World.size_setCell, World.size_drew, World.heap_drewN]); done) | ((with_reducible apply heap_new); (try simp only [World.size_alloc, World.size_setCell, World.size_drew, World.heap_drewN]); omega) | (with_reducible refine heap_old (by (try simp only [World.size_alloc, World.size_setCell, World.size_drew, World.heap_drewN]); omega) ?_) | (with_reducible refine heap_drew ?_) | (with_reducible refine heap_far (by omega) ?_) | (with_reducible apply heap_at))); all_goals rfl)
        · ((repeat (first | with_reducible assumption | ((with_reducible apply heap_new); (try simp only [World.size_alloc, World.size_setCell, World.size_drew, World.heap_drewN]); done) | ((with_reducible apply heap_new); (try simp only [World.size_alloc, World.size_setCell, World.size_drew, World.heap_drewN]); omega) | (with_reducible refine heap_old (by (try simp only [World.size_alloc, World.size_setCell, World.size_drew, World.heap_drewN]); omega) ?_) | (with_reducible refine heap_drew ?_) | (with_reducible refine heap_far (by omega) ?_) | (with_reducible apply heap_at))); all_goals rfl)
      rintro w1 ⟨b_w1, s0_w1, s1_w1⟩
      have a_w1 := b_w1
      have r0_w1 := own_row s0_w1
      have f0_w1 := own_free s0_w1
      have l0_w1 := own_lt s0_w1
      have r1_w1 := own_row s1_w1
      have f1_w1 := own_free s1_w1
      have l1_w1 := own_lt s1_w1
      have z_w1 := b_w1.below.size
      refine (HP.out _ f k1 c1 true a_w1 HK.out.1.1 HK.out.1.2 HQ1.out).mono ?_
      rintro e w2 ⟨rfl, b_w2⟩
      have z_w2 := b_w2.below.size
      have a_w2 := a_w1.trans b_w2
      have s0_w2 := any_own b_w2 s0_w1
      have s1_w2 := any_own b_w2 s1_w1
      have r0_w2 := own_row s0_w2
      have f0_w2 := own_free s0_w2
      have l0_w2 := own_lt s0_w2
      have r1_w2 := own_row s1_w2
      have f1_w2 := own_free s1_w2
      have l1_w2 := own_lt s1_w2
      (try clear r0_w1); (try clear f0_w1)
      (try clear r1_w1); (try clear f1_w1)
      go_wp2_with fail
      refine (HP.out _ e0 k2 c2 true a_w2 HK.out.2.1 HK.out.2.2 HQ2.out).mono ?_
      rintro e w3 ⟨rfl, b_w3⟩
      have z_w3 := b_w3.below.size
      have a_w3 := a_w2.trans b_w3
      have s0_w3 := any_own b_w3 s0_w2
      have s1_w3 := any_own b_w3 s1_w2
      have r0_w3 := own_row s0_w3
      have f0_w3 := own_free s0_w3
      have l0_w3 := own_lt s0_w3
      have r1_w3 := own_row s1_w3
      have f1_w3 := own_free s1_w3
      have l1_w3 := own_lt s1_w3
      (try clear r0_w2); (try clear f0_w2)
      (try clear r1_w2); (try clear f1_w2)
      go_wp2_with fail
      have s9 := heap_at (i := 0 + 1) (v := .int .i64 (k2 + 1)) (heap_at (i := 0) (v := .int .i64 (k1 + 1)) s1_w3 rfl) rfl
      have r9 := own_row s9
      refine bodyPost_ret (v := .agg #[.int .i64 (k1 + 1), .int .i64 (k2 + 1)]) (by simp [results, Tryz.results24, go_sem, r9]) rfl ⟨by rw [← HC.out], ?_⟩
      exact (a_w3.setCell (p := ⟨w.heap.size + 1, 0, none⟩) (Nat.le_succ _) _).setCell (p := ⟨w.heap.size + 1, 0 + 1, none⟩) (Nat.le_succ _) _
    · rw [if_neg (fun q => q2 ⟨q.2.2.1, q.2.2.2⟩)] at hc
      have HC := Lib.hid hc
      have HQ2 := Lib.hid (decide_eq_false q2)
      clear h ok hF hk1 hk2 hc1 hc2 hc l1 l2 q1 q2
      go_enter Tryz.func24, Tryz.ntmps24
      go_wp2_with fail
      first | refine settle_wp (fun wS => AnyLater w wS ∧ wS.heap[w.heap.size]? = some (.cells #[.int .i64 f, .int .i64 e0] 55) ∧ wS.heap[w.heap.size + 1]? = some (.cells #[.int .i64 0, .int .i64 0] 56)) ?_ ?_ | refine settle_calls (fun wS => AnyLater w wS ∧ wS.heap[w.heap.size]? = some (.cells #[.int .i64 f, .int .i64 e0] 55) ∧ wS.heap[w.heap.size + 1]? = some (.cells #[.int .i64 0, .int .i64 0] 56)) ?_ ?_
      · refine ⟨?_, ?_, ?_⟩
        · repeat' (first | with_reducible assumption | with_reducible exact AnyLater.refl _ | with_reducible apply AnyLater.setCell | with_reducible apply AnyLater.later | with_reducible apply AnyLater.drewN | with_reducible apply AnyLater.drew | with_reducible apply AnyLater.alloc | ((try simp only [World.size_alloc, World.size_setCell, World.size_drew]); (try dsimp only); omega))
        · ((repeat (first | with_reducible assumption | ((with_reducible apply heap_new); (try simp only [World.size_alloc, World.size_setCell, World.size_drew, World.heap_drewN]); done) | ((with_reducible apply heap_new); (try simp only [World.size_alloc, World.size_setCell, World.size_drew, World.heap_drewN]); omega) | (with_reducible refine heap_old (by (try simp only [World.size_alloc, World.size_setCell, World.size_drew, World.heap_drewN]); omega) ?_) | (with_reducible refine heap_drew ?_) | (with_reducible refine heap_far (by omega) ?_) | (with_reducible apply heap_at))); all_goals rfl)
        · ((repeat (first | with_reducible assumption | ((with_reducible apply heap_new); (try simp only [World.size_alloc, World.size_setCell, World.size_drew, World.heap_drewN]); done) | ((with_reducible apply heap_new); (try simp only [World.size_alloc, World.size_setCell, World.size_drew, World.heap_drewN]); omega) | (with_reducible refine heap_old (by (try simp only [World.size_alloc, World.size_setCell, World.size_drew, World.heap_drewN]); omega) ?_) | (with_reducible refine heap_drew ?_) | (with_reducible refine heap_far (by omega) ?_) | (with_reducible apply heap_at))); all_goals rfl)
      rintro w1 ⟨b_w1, s0_w1, s1_w1⟩
      have a_w1 := b_w1
      have r0_w1 := own_row s0_w1
      have f0_w1 := own_free s0_w1
      have l0_w1 := own_lt s0_w1
      have r1_w1 := own_row s1_w1
      have f1_w1 := own_free s1_w1
      have l1_w1 := own_lt s1_w1
      have z_w1 := b_w1.below.size
      refine (HP.out _ f k1 c1 true a_w1 HK.out.1.1 HK.out.1.2 HQ1.out).mono ?_
      rintro e w2 ⟨rfl, b_w2⟩
      have z_w2 := b_w2.below.size
      have a_w2 := a_w1.trans b_w2
      have s0_w2 := any_own b_w2 s0_w1
      have s1_w2 := any_own b_w2 s1_w1
      have r0_w2 := own_row s0_w2
      have f0_w2 := own_free s0_w2
      have l0_w2 := own_lt s0_w2
      have r1_w2 := own_row s1_w2
      have f1_w2 := own_free s1_w2
      have l1_w2 := own_lt s1_w2
      (try clear r0_w1); (try clear f0_w1)
      (try clear r1_w1); (try clear f1_w1)
      go_wp2_with fail
      refine (HP.out _ e0 k2 c2 false a_w2 HK.out.2.1 HK.out.2.2 HQ2.out).mono ?_
      rintro e w3 ⟨rfl, b_w3⟩
      have z_w3 := b_w3.below.size
      have a_w3 := a_w2.trans b_w3
      have s0_w3 := any_own b_w3 s0_w2
      have s1_w3 := any_own b_w3 s1_w2
      have r0_w3 := own_row s0_w3
      have f0_w3 := own_free s0_w3
      have l0_w3 := own_lt s0_w3
      have r1_w3 := own_row s1_w3
      have f1_w3 := own_free s1_w3
      have l1_w3 := own_lt s1_w3
      (try clear r0_w2); (try clear f0_w2)
      (try clear r1_w2); (try clear f1_w2)
      go_wp2_with fail
      have s9 := heap_at (i := 0 + 1) (v := .int .i64 0) (heap_at (i := 0) (v := .int .i64 0) s1_w3 rfl) rfl
      have r9 := own_row s9
      refine bodyPost_ret (v := .agg #[.int .i64 0, .int .i64 0]) (by simp [results, Tryz.results24, go_sem, r9]) rfl ⟨by rw [← HC.out], ?_⟩
      exact (a_w3.setCell (p := ⟨w.heap.size + 1, 0, none⟩) (Nat.le_succ _) _).setCell (p := ⟨w.heap.size + 1, 0 + 1, none⟩) (Nat.le_succ _) _
  · rw [if_neg (fun q => q1 ⟨q.1, q.2.1⟩)] at hc
    have HC := Lib.hid hc
    have HQ1 := Lib.hid (decide_eq_false q1)
    obtain ⟨b2, hb2⟩ : ∃ b, decide (0 ≤ e0 ∧ e0 ≤ (t.len : Int)) = b := ⟨_, rfl⟩
    have HQ2 := Lib.hid hb2
    clear h ok hF hk1 hk2 hc1 hc2 hc l1 l2 q1 hb2
    go_enter Tryz.func24, Tryz.ntmps24
    go_wp2_with fail
    first | refine settle_wp (fun wS => AnyLater w wS ∧ wS.heap[w.heap.size]? = some (.cells #[.int .i64 f, .int .i64 e0] 55) ∧ wS.heap[w.heap.size + 1]? = some (.cells #[.int .i64 0, .int .i64 0] 56)) ?_ ?_ | refine settle_calls (fun wS => AnyLater w wS ∧ wS.heap[w.heap.size]? = some (.cells #[.int .i64 f, .int .i64 e0] 55) ∧ wS.heap[w.heap.size + 1]? = some (.cells #[.int .i64 0, .int .i64 0] 56)) ?_ ?_
    · refine ⟨?_, ?_, ?_⟩
      · repeat' (first | with_reducible assumption | with_reducible exact AnyLater.refl _ | with_reducible apply AnyLater.setCell | with_reducible apply AnyLater.later | with_reducible apply AnyLater.drewN | with_reducible apply AnyLater.drew | with_reducible apply AnyLater.alloc | ((try simp only [World.size_alloc, World.size_setCell, World.size_drew]); (try dsimp only); omega))
      · ((repeat (first | with_reducible assumption | ((with_reducible apply heap_new); (try simp only [World.size_alloc, World.size_setCell, World.size_drew, World.heap_drewN]); done) | ((with_reducible apply heap_new); (try simp only [World.size_alloc, World.size_setCell, World.size_drew, World.heap_drewN]); omega) | (with_reducible refine heap_old (by (try simp only [World.size_alloc, World.size_setCell, World.size_drew, World.heap_drewN]); omega) ?_) | (with_reducible refine heap_drew ?_) | (with_reducible refine heap_far (by omega) ?_) | (with_reducible apply heap_at))); all_goals rfl)
      · ((repeat (first | with_reducible assumption | ((with_reducible apply heap_new); (try simp only [World.size_alloc, World.size_setCell, World.size_drew, World.heap_drewN]); done) | ((with_reducible apply heap_new); (try simp only [World.size_alloc, World.size_setCell, World.size_drew, World.heap_drewN]); omega) | (with_reducible refine heap_old (by (try simp only [World.size_alloc, World.size_setCell, World.size_drew, World.heap_drewN]); omega) ?_) | (with_reducible refine heap_drew ?_) | (with_reducible refine heap_far (by omega) ?_) | (with_reducible apply heap_at))); all_goals rfl)
    rintro w1 ⟨b_w1, s0_w1, s1_w1⟩
    have a_w1 := b_w1
    have r0_w1 := own_row s0_w1
    have f0_w1 := own_free s0_w1
    have l0_w1 := own_lt s0_w1
    have r1_w1 := own_row s1_w1
    have f1_w1 := own_free s1_w1
    have l1_w1 := own_lt s1_w1
    have z_w1 := b_w1.below.size
    refine (HP.out _ f k1 c1 false a_w1 HK.out.1.1 HK.out.1.2 HQ1.out).mono ?_
    rintro e w2 ⟨rfl, b_w2⟩
    have z_w2 := b_w2.below.size
    have a_w2 := a_w1.trans b_w2
    have s0_w2 := any_own b_w2 s0_w1
    have s1_w2 := any_own b_w2 s1_w1
    have r0_w2 := own_row s0_w2
    have f0_w2 := own_free s0_w2
    have l0_w2 := own_lt s0_w2
    have r1_w2 := own_row s1_w2
    have f1_w2 := own_free s1_w2
    have l1_w2 := own_lt s1_w2
    (try clear r0_w1); (try clear f0_w1)
    (try clear r1_w1); (try clear f1_w1)
    go_wp2_with fail
    refine (HP.out _ e0 k2 c2 b2 a_w2 HK.out.2.1 HK.out.2.2 HQ2.out).mono ?_
    rintro e w3 ⟨rfl, b_w3⟩
    have z_w3 := b_w3.below.size
    have a_w3 := a_w2.trans b_w3
    have s0_w3 := any_own b_w3 s0_w2
    have s1_w3 := any_own b_w3 s1_w2
    have r0_w3 := own_row s0_w3
    have f0_w3 := own_free s0_w3
    have l0_w3 := own_lt s0_w3
    have r1_w3 := own_row s1_w3
    have f1_w3 := own_free s1_w3
    have l1_w3 := own_lt s1_w3
    (try clear r0_w2); (try clear f0_w2)
    (try clear r1_w2); (try clear f1_w2)
    go_wp2_with fail
    have s9 := heap_at (i := 0 + 1) (v := .int .i64 0) (heap_at (i := 0) (v := .int .i64 0) s1_w3 rfl) rfl
    have r9 := own_row s9
    refine bodyPost_ret (v := .agg #[.int .i64 0, .int .i64 0]) (by simp [results, Tryz.results24, go_sem, r9]) rfl ⟨by rw [← HC.out], ?_⟩
    exact (a_w3.setCell (p := ⟨w.heap.size + 1, 0, none⟩) (Nat.le_succ _) _).setCell (p := ⟨w.heap.size + 1, 0 + 1, none⟩) (Nat.le_succ _) _
end Go.Proofs.YtiicaldnegcdiaaGreat
