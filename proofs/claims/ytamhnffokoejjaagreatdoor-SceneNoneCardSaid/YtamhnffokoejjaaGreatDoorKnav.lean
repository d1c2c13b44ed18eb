/- what the proof stands on: SeqK SeqM -/
import Derived.LoopN
import Derived.Deep.LoopGhost
import Derived.BigRegion
import Derived.RegionTactic
import Derived.Shelf.Abstract
import Derived.ChangeKeysEq
import Derived.Test.YtamhnffokoejjaaGreatDoorKnau
import Derived.Test.YtamhnffokoejjaaGreatDoorKnad
import Derived.Test.YtamhnffokoejjaaGreatDoorKnag
namespace Go.Proofs.YtamhnffokoejjaaGreatDoor
set_option linter.unusedSimpArgs false
set_option linter.unusedVariables false
set_option linter.unusedSectionVars false
open Go.RowKit
def TlOk (x : Int × Int) : Prop := (0 ≤ x.1 ∧ x.1 ≤ 16777216) ∧ 0 ≤ x.2 ∧ x.2 ≤ 16777216
end Go.Proofs.YtamhnffokoejjaaGreatDoor
namespace Go.Proofs.YtamhnffokoejjaaGreatDoor
set_option linter.unusedSimpArgs false
set_option linter.unusedVariables false
set_option linter.unusedSectionVars false
open Go.RowKit
def IsQ (w : World) (g : Nat) (t : Ht) : Prop := ∃ rv F, w.heap[g]? = some (.cells #[rv] 211) ∧ IsH w t rv F
def IsQN (w : World) (v : Value) (t : Ht) : Prop := (v = .pointer none ∧ t = .nil) ∨ ∃ g, v = .pointer (some ⟨g, 0, none⟩) ∧ IsQ w g t
theorem IsQ.later {w w' : World} {g : Nat} {t : Ht} (h : IsQ w g t) (a : AnyLater w w') : IsQ w' g t := by
  obtain ⟨rv, F, h1, h2⟩ := h
  exact ⟨rv, F, any_own a h1, h2.later a⟩
theorem IsQN.later {w w' : World} {v : Value} {t : Ht} (h : IsQN w v t) (a : AnyLater w w') : IsQN w' v t := by
  rcases h with h | ⟨g, e, h⟩
  · exact .inl h
  · exact .inr ⟨g, e, h.later a⟩
theorem IsQ.nil_or {w : World} {g : Nat} {t : Ht} (h : IsQ w g t) : IsQN w (.pointer (some ⟨g, 0, none⟩)) t := .inr ⟨g, rfl, h⟩
set_option maxRecDepth 100000 in
theorem sqcounted_any (v : Value) (t : Ht) (w : World) (h : IsQN w v t) (hf : t.Fit) : Calls Tryz.prog 164 #[v] w fun e w' => e = .returned (.agg #[.int .i64 (t.hs.length : Int), .int .i64 (tlR t.hs), .int .i64 (tlH t.hs)]) ∧ AnyLater w w' := by
  rcases h with ⟨rfl, rfl⟩ | ⟨g, rfl, rv, F, hg, ht⟩
  · go_enter Tryz.func164, Tryz.ntmps164
    go_wp2_with fail
    refine bodyPost_ret (v := .agg #[.int .i64 0, .int .i64 0, .int .i64 0]) (by simp [results, Tryz.results164, go_sem]) rfl ⟨rfl, ?_⟩
    repeat' (first | with_reducible assumption | with_reducible exact AnyLater.refl _ | with_reducible apply AnyLater.setCell | with_reducible apply AnyLater.later | with_reducible apply AnyLater.drewN | with_reducible apply AnyLater.drew | with_reducible apply AnyLater.alloc | ((try simp only [World.size_alloc, World.size_setCell, World.size_drew]); (try dsimp only); omega))
  · by_cases hn : t = .nil
    · subst hn
      obtain ⟨rfl, -⟩ := ht
      have r0 := own_row hg
      have l0 := own_lt hg
      clear hg hf
      go_enter Tryz.func164, Tryz.ntmps164
      go_wp2_with fail
      refine bodyPost_ret (v := .agg #[.int .i64 0, .int .i64 0, .int .i64 0]) (by simp [results, Tryz.results164, go_sem]) rfl ⟨rfl, ?_⟩
      repeat' (first | with_reducible assumption | with_reducible exact AnyLater.refl _ | with_reducible apply AnyLater.setCell | with_reducible apply AnyLater.later | with_reducible apply AnyLater.drewN | with_reducible apply AnyLater.drew | with_reducible apply AnyLater.alloc | ((try simp only [World.size_alloc, World.size_setCell, World.size_drew]); (try dsimp only); omega))
    · obtain ⟨k, a0, a1, a2, rfl, h1⟩ := ht.noted hn
      unfold hnodeC at h1
      have r0 := own_row hg
      have l0 := own_lt hg
      have r1 := own_row h1
      have l1 := own_lt h1
      clear hg h1 ht hf hn
      generalize t.hs.length = n at *
      generalize tlR t.hs = R at *
      generalize tlH t.hs = H at *
      go_enter Tryz.func164, Tryz.ntmps164
      go_wp2_with fail
      refine bodyPost_ret (v := .agg #[.int .i64 (n : Int), .int .i64 R, .int .i64 H]) (by simp [results, Tryz.results164, go_sem]) rfl ⟨rfl, ?_⟩
      repeat' (first | with_reducible assumption | with_reducible exact AnyLater.refl _ | with_reducible apply AnyLater.setCell | with_reducible apply AnyLater.later | with_reducible apply AnyLater.drewN | with_reducible apply AnyLater.drew | with_reducible apply AnyLater.alloc | ((try simp only [World.size_alloc, World.size_setCell, World.size_drew]); (try dsimp only); omega))
theorem cidx0 (a b c : Int) (w : World) : (Instr.index 206 (.agg #[.int .i64 a, .int .i64 b, .int .i64 c]) (.int .i64 0)).run Tryz.prog w = .ok (.int .i64 a) w := by kernel_rfl
set_option maxRecDepth 100000 in
theorem sqlen_any (v : Value) (t : Ht) (w : World) (h : IsQN w v t) (hf : t.Fit) : Calls Tryz.prog 119 #[v] w fun e w' => e = .returned (.int .i64 (t.hs.length : Int)) ∧ AnyLater w w' := by
  have HC := Lib.hid (sqcounted_any v t w h hf)
  clear h hf
  generalize t.hs.length = n at *
  generalize tlR t.hs = R at *
  generalize tlH t.hs = H at *
  have i0 := cidx0
  go_enter Tryz.func119, Tryz.ntmps119
  go_wp2_with fail
  refine HC.out.mono ?_
  rintro e w1 ⟨rfl, b1⟩
  have HB := Lib.hid b1
  clear b1
  go_wp2_with fail
  go_ret
  exact ⟨rfl, HB.out⟩
set_option maxRecDepth 100000 in
theorem sqhas_any (v : Value) (t : Ht) (i : Int) (c : Bool) (w : World) (hc : decide (0 ≤ i ∧ i < t.hs.length) = c) (h : IsQN w v t) (hf : t.Fit) : Calls Tryz.prog 165 #[v, .int .i64 i] w fun e w' => e = .returned (.bool c) ∧ AnyLater w w' := by
  have HL := Lib.hid (fun (w' : World) (a : AnyLater w w') => sqlen_any v t w' (h.later a) hf)
  clear h hf
  by_cases h0 : 0 ≤ i
  · have HC : Hid (decide (i < (t.hs.length : Int)) = c) := Lib.hid (by rw [← hc]; simp [h0])
    clear hc
    generalize t.hs.length = n at *
    go_enter Tryz.func165, Tryz.ntmps165
    go_wp2_with fail
    refine (HL.out _ (AnyLater.refl w)).mono ?_
    rintro e w1 ⟨rfl, b1⟩
    have HB := Lib.hid b1
    clear b1
    go_wp2_with fail
    go_ret
    exact ⟨ret_bool HC.out, HB.out⟩
  · have HC : Hid (false = c) := Lib.hid (by rw [← hc]; simp [h0])
    have d : decide (0 ≤ i) = false := decide_eq_false h0
    clear hc
    go_enter Tryz.func165, Tryz.ntmps165
    go_wp2_with fail
    go_ret
    exact ⟨ret_bool HC.out, AnyLater.refl _⟩
theorem tlC_one (l : Qs) : tlC 0 l = (l.length : Int) := rfl
def sumN (l : Qs) (i : Int) : Nat := (clcClamp i 0 l.length).toNat
theorem sumN_le (l : Qs) (i : Int) : sumN l i ≤ l.length ∧ clcClamp i 0 l.length = (sumN l i : Int) := by
  unfold sumN clcClamp
  split
  · omega
  · split <;> omega
set_option maxRecDepth 100000 in
theorem sqsum_any (v : Value) (t : Ht) (i : Int) (w : World) (R H : Int) (hR : tlR (t.hs.take (sumN t.hs i)) = R) (hH : tlH (t.hs.take (sumN t.hs i)) = H) (h : IsQN w v t) (hf : t.Fit) : Calls Tryz.prog 118 #[v, .int .i64 i] w fun e w' => e = .returned (.agg #[.int .i64 R, .int .i64 H]) ∧ AnyLater w w' := by
  obtain ⟨hle, hcl⟩ := sumN_le t.hs i
  have HL := Lib.hid (fun (w' : World) (a : AnyLater w w') => sqlen_any v t w' (h.later a) hf)
  have HC := Lib.hid (fun (w' : World) (a : AnyLater w w') => sqcounted_any v t w' (h.later a) hf)
  have HK := Lib.hid (fun (w' : World) => same_later (clcClamp_any i 0 (t.hs.length : Int) w' _ hcl))
  generalize sumN t.hs i = m at *
  by_cases hm : m < t.hs.length
  · have hn : t ≠ .nil := fun e => by rw [e] at hm; simp [Ht.hs] at hm
    rcases h with ⟨-, e⟩ | ⟨g, rfl, h⟩
    · exact absurd e hn
    · have HH := Lib.hid (fun (w' : World) (a : AnyLater w w') => sqhas_any (.pointer (some ⟨g, 0, none⟩)) t (m : Int) true w' (decide_eq_true (by omega)) (h.nil_or.later a) hf)
      obtain ⟨rv, F, hg, ht⟩ := h
      have e : t.hs = t.hs.take m ++ (t.hs[m].1, t.hs[m].2) :: t.hs.drop (m + 1) := by
        conv => lhs; rw [← List.take_append_drop m t.hs]
        rw [List.drop_eq_getElem_cons hm]
      have HS := Lib.hid (fun (w' : World) (a : AnyLater w w') => hseek0 t rv (m : Int) (t.hs.take m) (t.hs.drop (m + 1)) t.hs[m].1 t.hs[m].2 w' (ht.later a).is0 hf e (by rw [tlC_one, List.length_take]; omega) (by rw [tlC_one, List.length_append, List.length_take]; simp; omega))
      rw [hR, hH] at HS
      obtain ⟨q, rfl⟩ := ht.ptr
      have s0_w := hg
      have r0_w := own_row hg
      have f0_w := own_free hg
      have l0_w := own_lt hg
      clear ht hf hg e hR hH hle hcl hn
      generalize t.hs[m].1 = x at *
      generalize t.hs[m].2 = y at *
      generalize (t.hs.take m).length = m2 at *
      generalize t.hs.length = n at *
      generalize tlR t.hs = R0 at *
      generalize tlH t.hs = H0 at *
      go_enter Tryz.func118, Tryz.ntmps118
      go_wp2_with fail
      first | refine settle_wp (fun wS => AnyLater w wS ∧ wS.heap[w.heap.size]? = some (.cells #[.int .i64 0, .int .i64 0] 61)) ?_ ?_ | refine settle_calls (fun wS => AnyLater w wS ∧ wS.heap[w.heap.size]? = some (.cells #[.int .i64 0, .int .i64 0] 61)) ?_ ?_
      · refine ⟨?_, ?_⟩
        · repeat' (first | with_reducible assumption | with_reducible exact AnyLater.refl _ | with_reducible apply AnyLater.setCell | with_reducible apply AnyLater.later | with_reducible apply AnyLater.drewN | with_reducible apply AnyLater.drew | with_reducible apply AnyLater.alloc | ((try simp only [World.size_alloc, World.size_setCell, World.size_drew]); (try dsimp only); omega))
        · ((repeat (first | with_reducible assumption | ((with_reducible apply heap_new); (try simp only [World.size_alloc, World.size_setCell, World.size_drew, World.heap_drewN]); done) | ((with_reducible apply heap_new); (try simp only [World.size_alloc, World.size_setCell, World.size_drew, World.heap_drewN]); omega) | (with_reducible refine heap_old (by (try simp only [World.size_alloc, World.size_setCell, World.size_drew, World.heap_drewN]); omega) ?_) | (with_reducible refine heap_drew ?_) | (with_reducible refine heap_far (by omega) ?_) | (with_reducible apply heap_at))); all_goals rfl)
      rintro w1 ⟨b_w1, s1_w1⟩
      have a_w1 := b_w1
      have s0_w1 := any_own b_w1 s0_w
      have r0_w1 := own_row s0_w1
      have f0_w1 := own_free s0_w1
      have l0_w1 := own_lt s0_w1
      (try clear r0_w); (try clear f0_w)
      have r1_w1 := own_row s1_w1
      have f1_w1 := own_free s1_w1
      have l1_w1 := own_lt s1_w1
      have z_w1 := b_w1.below.size
      refine (HL.out _ a_w1).mono ?_
      rintro e w2 ⟨rfl, b_w2⟩
      have z_w2 := b_w2.below.size
      have a_w2 := a_w1.trans b_w2
      have s0_w2 := any_own b_w2 s0_w1
      have s1_w2 := any_own b_w2 s1_w1
      have r0_w2 := own_row s0_w2
      have f0_w2 := own_free s0_w2
      have l0_w2 := own_lt s0_w2
      have r1_w2 := own_row s1_w2
      have f1_w2 := own_free s1_w2
      have l1_w2 := own_lt s1_w2
      (try clear r0_w1); (try clear f0_w1)
      (try clear r1_w1); (try clear f1_w1)
      go_wp2_with fail
      refine (HK.out _).mono ?_
      rintro e w3 ⟨rfl, b_w3⟩
      have z_w3 := b_w3.below.size
      have a_w3 := a_w2.trans b_w3
      have s0_w3 := any_own b_w3 s0_w2
      have s1_w3 := any_own b_w3 s1_w2
      have r0_w3 := own_row s0_w3
      have f0_w3 := own_free s0_w3
      have l0_w3 := own_lt s0_w3
      have r1_w3 := own_row s1_w3
      have f1_w3 := own_free s1_w3
      have l1_w3 := own_lt s1_w3
      (try clear r0_w2); (try clear f0_w2)
      (try clear r1_w2); (try clear f1_w2)
      go_wp2_with fail
      refine (HC.out _ a_w3).mono ?_
      rintro e w4 ⟨rfl, b_w4⟩
      have z_w4 := b_w4.below.size
      have a_w4 := a_w3.trans b_w4
      have s0_w4 := any_own b_w4 s0_w3
      have s1_w4 := any_own b_w4 s1_w3
      have r0_w4 := own_row s0_w4
      have f0_w4 := own_free s0_w4
      have l0_w4 := own_lt s0_w4
      have r1_w4 := own_row s1_w4
      have f1_w4 := own_free s1_w4
      have l1_w4 := own_lt s1_w4
      (try clear r0_w3); (try clear f0_w3)
      (try clear r1_w3); (try clear f1_w3)
      go_wp2_with fail
      first | refine settle_wp (fun wS => AnyLater w4 wS ∧ wS.heap[w4.heap.size]? = some (.cells #[.int .i64 (n : Int), .int .i64 R0, .int .i64 H0] 206)) ?_ ?_ | refine settle_calls (fun wS => AnyLater w4 wS ∧ wS.heap[w4.heap.size]? = some (.cells #[.int .i64 (n : Int), .int .i64 R0, .int .i64 H0] 206)) ?_ ?_
      · refine ⟨?_, ?_⟩
        · repeat' (first | with_reducible assumption | with_reducible exact AnyLater.refl _ | with_reducible apply AnyLater.setCell | with_reducible apply AnyLater.later | with_reducible apply AnyLater.drewN | with_reducible apply AnyLater.drew | with_reducible apply AnyLater.alloc | ((try simp only [World.size_alloc, World.size_setCell, World.size_drew]); (try dsimp only); omega))
        · ((repeat (first | with_reducible assumption | ((with_reducible apply heap_new); (try simp only [World.size_alloc, World.size_setCell, World.size_drew, World.heap_drewN]); done) | ((with_reducible apply heap_new); (try simp only [World.size_alloc, World.size_setCell, World.size_drew, World.heap_drewN]); omega) | (with_reducible refine heap_old (by (try simp only [World.size_alloc, World.size_setCell, World.size_drew, World.heap_drewN]); omega) ?_) | (with_reducible refine heap_drew ?_) | (with_reducible refine heap_far (by omega) ?_) | (with_reducible apply heap_at))); all_goals rfl)
      rintro w5 ⟨b_w5, s2_w5⟩
      have a_w5 := a_w4.trans b_w5
      have s0_w5 := any_own b_w5 s0_w4
      have s1_w5 := any_own b_w5 s1_w4
      have r0_w5 := own_row s0_w5
      have f0_w5 := own_free s0_w5
      have l0_w5 := own_lt s0_w5
      have r1_w5 := own_row s1_w5
      have f1_w5 := own_free s1_w5
      have l1_w5 := own_lt s1_w5
      (try clear r0_w4); (try clear f0_w4)
      (try clear r1_w4); (try clear f1_w4)
      have r2_w5 := own_row s2_w5
      have f2_w5 := own_free s2_w5
      have l2_w5 := own_lt s2_w5
      have z_w5 := b_w5.below.size
      refine (HH.out _ a_w5).mono ?_
      rintro e w6 ⟨rfl, b_w6⟩
      have z_w6 := b_w6.below.size
      have a_w6 := a_w5.trans b_w6
      have s0_w6 := any_own b_w6 s0_w5
      have s1_w6 := any_own b_w6 s1_w5
      have s2_w6 := any_own b_w6 s2_w5
      have r0_w6 := own_row s0_w6
      have f0_w6 := own_free s0_w6
      have l0_w6 := own_lt s0_w6
      have r1_w6 := own_row s1_w6
      have f1_w6 := own_free s1_w6
      have l1_w6 := own_lt s1_w6
      have r2_w6 := own_row s2_w6
      have f2_w6 := own_free s2_w6
      have l2_w6 := own_lt s2_w6
      (try clear r0_w5); (try clear f0_w5)
      (try clear r1_w5); (try clear f1_w5)
      (try clear r2_w5); (try clear f2_w5)
      go_wp2_with fail
      refine (HS.out _ a_w6).mono ?_
      rintro e w7 ⟨rfl, b_w7⟩
      have z_w7 := b_w7.below.size
      have a_w7 := a_w6.trans b_w7
      have s0_w7 := any_own b_w7 s0_w6
      have s1_w7 := any_own b_w7 s1_w6
      have s2_w7 := any_own b_w7 s2_w6
      have r0_w7 := own_row s0_w7
      have f0_w7 := own_free s0_w7
      have l0_w7 := own_lt s0_w7
      have r1_w7 := own_row s1_w7
      have f1_w7 := own_free s1_w7
      have l1_w7 := own_lt s1_w7
      have r2_w7 := own_row s2_w7
      have f2_w7 := own_free s2_w7
      have l2_w7 := own_lt s2_w7
      (try clear r0_w6); (try clear f0_w6)
      (try clear r1_w6); (try clear f1_w6)
      (try clear r2_w6); (try clear f2_w6)
      go_wp2_with fail
      refine bodyPost_ret (v := .agg #[.int .i64 R, .int .i64 H]) (by simp [results, Tryz.results118, go_sem, *]) rfl ⟨rfl, ?_⟩
      repeat' (first | with_reducible assumption | with_reducible exact AnyLater.refl _ | with_reducible apply AnyLater.setCell | with_reducible apply AnyLater.later | with_reducible apply AnyLater.drewN | with_reducible apply AnyLater.drew | with_reducible apply AnyLater.alloc | ((try simp only [World.size_alloc, World.size_setCell, World.size_drew]); (try dsimp only); omega))
  · obtain rfl : m = t.hs.length := by omega
    rw [List.take_length] at hR hH
    have HH := Lib.hid (fun (w' : World) (a : AnyLater w w') => sqhas_any v t (t.hs.length : Int) false w' (decide_eq_false (by omega)) (h.later a) hf)
    rw [hR, hH] at HC
    clear h hf hR hH hle hcl hm
    generalize t.hs.length = n at *
    go_enter Tryz.func118, Tryz.ntmps118
    go_wp2_with fail
    first | refine settle_wp (fun wS => AnyLater w wS ∧ wS.heap[w.heap.size]? = some (.cells #[.int .i64 0, .int .i64 0] 61)) ?_ ?_ | refine settle_calls (fun wS => AnyLater w wS ∧ wS.heap[w.heap.size]? = some (.cells #[.int .i64 0, .int .i64 0] 61)) ?_ ?_
    · refine ⟨?_, ?_⟩
      · repeat' (first | with_reducible assumption | with_reducible exact AnyLater.refl _ | with_reducible apply AnyLater.setCell | with_reducible apply AnyLater.later | with_reducible apply AnyLater.drewN | with_reducible apply AnyLater.drew | with_reducible apply AnyLater.alloc | ((try simp only [World.size_alloc, World.size_setCell, World.size_drew]); (try dsimp only); omega))
      · ((repeat (first | with_reducible assumption | ((with_reducible apply heap_new); (try simp only [World.size_alloc, World.size_setCell, World.size_drew, World.heap_drewN]); done) | ((with_reducible apply heap_new); (try simp only [World.size_alloc, World.size_setCell, World.size_drew, World.heap_drewN]); omega) | (with_reducible refine heap_old (by (try simp only [World.size_alloc, World.size_setCell, World.size_drew, World.heap_drewN]); omega) ?_) | (with_reducible refine heap_drew ?_) | (with_reducible refine heap_far (by omega) ?_) | (with_reducible apply heap_at))); all_goals rfl)
    rintro w1 ⟨b_w1, s0_w1⟩
    have a_w1 := b_w1
    have r0_w1 := own_row s0_w1
    have f0_w1 := own_free s0_w1
    have l0_w1 := own_lt s0_w1
    have z_w1 := b_w1.below.size
    refine (HL.out _ a_w1).mono ?_
    rintro e w2 ⟨rfl, b_w2⟩
    have z_w2 := b_w2.below.size
    have a_w2 := a_w1.trans b_w2
    have s0_w2 := any_own b_w2 s0_w1
    have r0_w2 := own_row s0_w2
    have f0_w2 := own_free s0_w2
    have l0_w2 := own_lt s0_w2
    (try clear r0_w1); (try clear f0_w1)
    go_wp2_with fail
    refine (HK.out _).mono ?_
    rintro e w3 ⟨rfl, b_w3⟩
    have z_w3 := b_w3.below.size
    have a_w3 := a_w2.trans b_w3
    have s0_w3 := any_own b_w3 s0_w2
    have r0_w3 := own_row s0_w3
    have f0_w3 := own_free s0_w3
    have l0_w3 := own_lt s0_w3
    (try clear r0_w2); (try clear f0_w2)
    go_wp2_with fail
    refine (HC.out _ a_w3).mono ?_
    rintro e w4 ⟨rfl, b_w4⟩
    have z_w4 := b_w4.below.size
    have a_w4 := a_w3.trans b_w4
    have s0_w4 := any_own b_w4 s0_w3
    have r0_w4 := own_row s0_w4
    have f0_w4 := own_free s0_w4
    have l0_w4 := own_lt s0_w4
    (try clear r0_w3); (try clear f0_w3)
    go_wp2_with fail
    first | refine settle_wp (fun wS => AnyLater w4 wS ∧ wS.heap[w4.heap.size]? = some (.cells #[.int .i64 (n : Int), .int .i64 R, .int .i64 H] 206)) ?_ ?_ | refine settle_calls (fun wS => AnyLater w4 wS ∧ wS.heap[w4.heap.size]? = some (.cells #[.int .i64 (n : Int), .int .i64 R, .int .i64 H] 206)) ?_ ?_
    · refine ⟨?_, ?_⟩
      · repeat' (first | with_reducible assumption | with_reducible exact AnyLater.refl _ | with_reducible apply AnyLater.setCell | with_reducible apply AnyLater.later | with_reducible apply AnyLater.drewN | with_reducible apply AnyLater.drew | with_reducible apply AnyLater.alloc | ((try simp only [World.size_alloc, World.size_setCell, World.size_drew]); (try dsimp only); omega))
      · ((repeat (first | with_reducible assumption | ((with_reducible apply heap_new); (try simp only [World.size_alloc, World.size_setCell, World.size_drew, World.heap_drewN]); done) | ((with_reducible apply heap_new); (try simp only [World.size_alloc, World.size_setCell, World.size_drew, World.heap_drewN]); omega) | (with_reducible refine heap_old (by (try simp only [World.size_alloc, World.size_setCell, World.size_drew, World.heap_drewN]); omega) ?_) | (with_reducible refine heap_drew ?_) | (with_reducible refine heap_far (by omega) ?_) | (with_reducible apply heap_at))); all_goals rfl)
    rintro w5 ⟨b_w5, s1_w5⟩
    have a_w5 := a_w4.trans b_w5
    have s0_w5 := any_own b_w5 s0_w4
    have r0_w5 := own_row s0_w5
    have f0_w5 := own_free s0_w5
    have l0_w5 := own_lt s0_w5
    (try clear r0_w4); (try clear f0_w4)
    have r1_w5 := own_row s1_w5
    have f1_w5 := own_free s1_w5
    have l1_w5 := own_lt s1_w5
    have z_w5 := b_w5.below.size
    refine (HH.out _ a_w5).mono ?_
    rintro e w6 ⟨rfl, b_w6⟩
    have z_w6 := b_w6.below.size
    have a_w6 := a_w5.trans b_w6
    have s0_w6 := any_own b_w6 s0_w5
    have s1_w6 := any_own b_w6 s1_w5
    have r0_w6 := own_row s0_w6
    have f0_w6 := own_free s0_w6
    have l0_w6 := own_lt s0_w6
    have r1_w6 := own_row s1_w6
    have f1_w6 := own_free s1_w6
    have l1_w6 := own_lt s1_w6
    (try clear r0_w5); (try clear f0_w5)
    (try clear r1_w5); (try clear f1_w5)
    go_wp2_with fail
    refine bodyPost_ret (v := .agg #[.int .i64 R, .int .i64 H]) (by simp [results, Tryz.results118, go_sem, *]) rfl ⟨rfl, ?_⟩
    repeat' (first | with_reducible assumption | with_reducible exact AnyLater.refl _ | with_reducible apply AnyLater.setCell | with_reducible apply AnyLater.later | with_reducible apply AnyLater.drewN | with_reducible apply AnyLater.drew | with_reducible apply AnyLater.alloc | ((try simp only [World.size_alloc, World.size_setCell, World.size_drew]); (try dsimp only); omega))
end Go.Proofs.YtamhnffokoejjaaGreatDoor
