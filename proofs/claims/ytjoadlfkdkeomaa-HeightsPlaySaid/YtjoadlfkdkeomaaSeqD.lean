/- seq: a part noted, two tied, one told to be deeper: by contract. Trees of up to 90000 heights. -/
import Derived.Test.YtjoadlfkdkeomaaSeqC
import Derived.Test.YtjoadlfkdkeomaaFree
import Derived.LoopN
import Derived.Deep.LoopGhost
import Derived.BigRegion
import Derived.RegionTactic
namespace Go.Proofs.Ytjoadlfkdkeomaa
set_option linter.unusedSimpArgs false
set_option linter.unusedVariables false
set_option linter.unusedSectionVars false
open Go.RowKit
variable {B : Nat}

set_option maxRecDepth 100000 in
/-- a leaf, noted -/
theorem noted_leaf (v : Value) (l : Qs) (w : World) (hv : QR w v l) (hl : l.length ≤ 90000) (hT : Tls l) :
    Calls Try.prog 88 #[.agg #[.pointer none, .pointer none, v, .int .i64 0, .int .i64 0, .int .i64 0, .int .i64 0]] w fun e w' => ∃ g, e = .returned (.pointer (some ⟨g, 0, none⟩)) ∧ w.heap.size ≤ g ∧ AnyLater w w' ∧
      w'.heap[g]? = some (.cells #[.pointer none, .pointer none, v, .int .i64 (l.length : Int), .int .i64 (tlR l), .int .i64 (tlH l), .int .i64 1] 119) := by
  have HR := Lib.hid (fun (w' : World) (a : AnyLater w w') (k : Nat) hk => reckoned_leaf k (.pointer none) v (.int .i64 0) (.int .i64 0) (.int .i64 0) (.int .i64 0) l w' hk (hv.later a) hl hT)
  obtain ⟨A, cap, rfl, -⟩ := hv.form
  clear hv hl hT
  generalize l.length = n at *
  generalize tlR l = R at *
  generalize tlH l = H at *
  go_enter Try.func88, Try.ntmps88
  go_wp2_with fail
  first | refine settle_wp (fun wS => AnyLater w wS ∧ wS.heap[w.heap.size]? = some (.cells #[.pointer none, .pointer none, .slice A n cap, .int .i64 0, .int .i64 0, .int .i64 0, .int .i64 0] 119)) ?_ ?_ | refine settle_calls (fun wS => AnyLater w wS ∧ wS.heap[w.heap.size]? = some (.cells #[.pointer none, .pointer none, .slice A n cap, .int .i64 0, .int .i64 0, .int .i64 0, .int .i64 0] 119)) ?_ ?_
  · refine ⟨?_, ?_⟩
    · repeat' (first | with_reducible assumption | with_reducible exact AnyLater.refl _ | with_reducible apply AnyLater.setCell | with_reducible apply AnyLater.later | with_reducible apply AnyLater.drewN | with_reducible apply AnyLater.drew | with_reducible apply AnyLater.alloc | ((try simp only [World.size_alloc, World.size_setCell, World.size_drew]); (try dsimp only); omega))
    · ((repeat (first | with_reducible assumption | ((with_reducible apply heap_new); (try simp only [World.size_alloc, World.size_setCell, World.size_drew, World.heap_drewN]); done) | ((with_reducible apply heap_new); (try simp only [World.size_alloc, World.size_setCell, World.size_drew, World.heap_drewN]); omega) | (with_reducible refine heap_old (by (try simp only [World.size_alloc, World.size_setCell, World.size_drew, World.heap_drewN]); omega) ?_) | (with_reducible refine heap_drew ?_) | (with_reducible refine heap_far (by omega) ?_) | (with_reducible apply heap_at))); all_goals rfl)
  rintro w1 ⟨b_w1, s0_w1⟩
  have a_w1 := b_w1
  have r0_w1 := own_row s0_w1
  have f0_w1 := own_free s0_w1
  have l0_w1 := own_lt s0_w1
  have z_w1 := b_w1.below.size
  refine (HR.out _ a_w1 _ s0_w1).mono ?_
  rintro e w2 ⟨rfl, b_w2⟩
  have z_w2 := b_w2.below.size
  have a_w2 := a_w1.trans b_w2
  have s0_w2 := any_own b_w2 s0_w1
  have r0_w2 := own_row s0_w2
  have f0_w2 := own_free s0_w2
  have l0_w2 := own_lt s0_w2
  (try clear r0_w1); (try clear f0_w1)
  go_wp2_with fail
  go_ret
  refine ⟨_, rfl, Nat.le_refl _, by repeat' (first | with_reducible assumption | with_reducible exact AnyLater.refl _ | with_reducible apply AnyLater.setCell | with_reducible apply AnyLater.later | with_reducible apply AnyLater.drewN | with_reducible apply AnyLater.drew | with_reducible apply AnyLater.alloc | ((try simp only [World.size_alloc, World.size_setCell, World.size_drew]); (try dsimp only); omega)), ?_⟩
  ((repeat (first | with_reducible assumption | ((with_reducible apply heap_new); (try simp only [World.size_alloc, World.size_setCell, World.size_drew, World.heap_drewN]); done) | ((with_reducible apply heap_new); (try simp only [World.size_alloc, World.size_setCell, World.size_drew, World.heap_drewN]); omega) | (with_reducible refine heap_old (by (try simp only [World.size_alloc, World.size_setCell, World.size_drew, World.heap_drewN]); omega) ?_) | (with_reducible refine heap_drew ?_) | (with_reducible refine heap_far (by omega) ?_) | (with_reducible apply heap_at))); all_goals rfl)
set_option maxRecDepth 100000 in
/-- two parts, noted -/
theorem noted_two (k1 k2 : Nat) (a0 a1 a2 b0 b1 b2 : Value) (n1 n2 m1 m2 : Nat) (R1 H1 R2 H2 : Int) (w : World)
    (h1 : w.heap[k1]? = some (.cells #[a0, a1, a2, .int .i64 (n1 : Int), .int .i64 R1, .int .i64 H1, .int .i64 (m1 : Int)] 119)) (h2 : w.heap[k2]? = some (.cells #[b0, b1, b2, .int .i64 (n2 : Int), .int .i64 R2, .int .i64 H2, .int .i64 (m2 : Int)] 119))
    (bn : n1 + n2 ≤ 90000) (bm : m1 ≤ 90000 ∧ m2 ≤ 90000) (bR : 0 ≤ R1 + R2 ∧ R1 + R2 ≤ 9000000000000) (bH : 0 ≤ H1 + H2 ∧ H1 + H2 ≤ 9000000000000) :
    Calls Try.prog 88 #[.agg #[.pointer (some ⟨k1, 0, none⟩), .pointer (some ⟨k2, 0, none⟩), .slice none 0 0, .int .i64 0, .int .i64 0, .int .i64 0, .int .i64 0]] w fun e w' => ∃ g, e = .returned (.pointer (some ⟨g, 0, none⟩)) ∧ w.heap.size ≤ g ∧ AnyLater w w' ∧
      w'.heap[g]? = some (.cells #[.pointer (some ⟨k1, 0, none⟩), .pointer (some ⟨k2, 0, none⟩), .slice none 0 0, .int .i64 ((n1 + n2 : Nat) : Int), .int .i64 (R1 + R2), .int .i64 (H1 + H2), .int .i64 ((1 + max m1 m2 : Nat) : Int)] 119) := by
  have HR := Lib.hid (fun (w' : World) (a : AnyLater w w') (k : Nat) hk => reckoned_two k k1 k2 (.slice none 0 0) (.int .i64 0) (.int .i64 0) (.int .i64 0) (.int .i64 0) a0 a1 a2 b0 b1 b2 n1 n2 m1 m2 R1 H1 R2 H2 w' hk (any_own a h1) (any_own a h2) bn bm bR bH)
  clear h1 h2 bn bm bR bH
  generalize n1 + n2 = N at *
  generalize R1 + R2 = R at *
  generalize H1 + H2 = H at *
  generalize max m1 m2 = M at *
  go_enter Try.func88, Try.ntmps88
  go_wp2_with fail
  first | refine settle_wp (fun wS => AnyLater w wS ∧ wS.heap[w.heap.size]? = some (.cells #[.pointer (some ⟨k1, 0, none⟩), .pointer (some ⟨k2, 0, none⟩), .slice none 0 0, .int .i64 0, .int .i64 0, .int .i64 0, .int .i64 0] 119)) ?_ ?_ | refine settle_calls (fun wS => AnyLater w wS ∧ wS.heap[w.heap.size]? = some (.cells #[.pointer (some ⟨k1, 0, none⟩), .pointer (some ⟨k2, 0, none⟩), .slice none 0 0, .int .i64 0, .int .i64 0, .int .i64 0, .int .i64 0] 119)) ?_ ?_
  · refine ⟨?_, ?_⟩
    · repeat' (first | with_reducible assumption | with_reducible exact AnyLater.refl _ | with_reducible apply AnyLater.setCell | with_reducible apply AnyLater.later | with_reducible apply AnyLater.drewN | with_reducible apply AnyLater.drew | with_reducible apply AnyLater.alloc | ((try simp only [World.size_alloc, World.size_setCell, World.size_drew]); (try dsimp only); omega))
    · ((repeat (first | with_reducible assumption | ((with_reducible apply heap_new); (try simp only [World.size_alloc, World.size_setCell, World.size_drew, World.heap_drewN]); done) | ((with_reducible apply heap_new); (try simp only [World.size_alloc, World.size_setCell, World.size_drew, World.heap_drewN]); omega) | (with_reducible refine heap_old (by (try simp only [World.size_alloc, World.size_setCell, World.size_drew, World.heap_drewN]); omega) ?_) | (with_reducible refine heap_drew ?_) | (with_reducible refine heap_far (by omega) ?_) | (with_reducible apply heap_at))); all_goals rfl)
  rintro w1 ⟨b_w1, s0_w1⟩
  have a_w1 := b_w1
  have r0_w1 := own_row s0_w1
  have f0_w1 := own_free s0_w1
  have l0_w1 := own_lt s0_w1
  have z_w1 := b_w1.below.size
  refine (HR.out _ a_w1 _ s0_w1).mono ?_
  rintro e w2 ⟨rfl, b_w2⟩
  have z_w2 := b_w2.below.size
  have a_w2 := a_w1.trans b_w2
  have s0_w2 := any_own b_w2 s0_w1
  have r0_w2 := own_row s0_w2
  have f0_w2 := own_free s0_w2
  have l0_w2 := own_lt s0_w2
  (try clear r0_w1); (try clear f0_w1)
  go_wp2_with fail
  go_ret
  refine ⟨_, rfl, Nat.le_refl _, by repeat' (first | with_reducible assumption | with_reducible exact AnyLater.refl _ | with_reducible apply AnyLater.setCell | with_reducible apply AnyLater.later | with_reducible apply AnyLater.drewN | with_reducible apply AnyLater.drew | with_reducible apply AnyLater.alloc | ((try simp only [World.size_alloc, World.size_setCell, World.size_drew]); (try dsimp only); omega)), ?_⟩
  ((repeat (first | with_reducible assumption | ((with_reducible apply heap_new); (try simp only [World.size_alloc, World.size_setCell, World.size_drew, World.heap_drewN]); done) | ((with_reducible apply heap_new); (try simp only [World.size_alloc, World.size_setCell, World.size_drew, World.heap_drewN]); omega) | (with_reducible refine heap_old (by (try simp only [World.size_alloc, World.size_setCell, World.size_drew, World.heap_drewN]); omega) ?_) | (with_reducible refine heap_drew ?_) | (with_reducible refine heap_far (by omega) ?_) | (with_reducible apply heap_at))); all_goals rfl)
theorem IsH.noted {w : World} : ∀ {t : Ht} {v : Value} {F : List Nat}, IsH w t v F → t ≠ .nil → ∃ (k : Nat) (a b c : Value), v = .pointer (some ⟨k, 0, none⟩) ∧ w.heap[k]? = some (.cells (hnodeC a b c t) 119)
  | .nil, _, _, _, h => absurd rfl h
  | .leaf _ _, _, _, h, _ => by obtain ⟨k, _, h1, h2, h3, _⟩ := h; exact ⟨k, _, _, _, h1, h3⟩
  | .node _ _, _, _, h, _ => by obtain ⟨k, _, _, _, _, h1, h2, _, _, h3, _⟩ := h; exact ⟨k, _, _, _, h1, h3⟩
theorem isH.noted {t : Ht} {v : Value} {w : World} (h : isH B t v w) (n : t ≠ .nil) : ∃ (k : Nat) (a b c : Value), v = .pointer (some ⟨k, 0, none⟩) ∧ w.heap[k]? = some (.cells (hnodeC a b c t) 119) := by
  obtain ⟨_, F, hF, _⟩ := h
  exact hF.noted n
/-- heights that may be, in trees that are as they should be, and not too many -/
structure Ht.Fit (t : Ht) : Prop where
  full : t.Full
  tls : Tls t.hs
  most : t.hs.length ≤ 90000
theorem Ht.Fit.lev {t : Ht} (h : t.Fit) : t.lev ≤ 90000 := Nat.le_trans (Ht.lev_hs h.full) h.most
theorem Ht.Fit.sums {t : Ht} (h : t.Fit) : (0 ≤ tlR t.hs ∧ tlR t.hs ≤ 2000000000000) ∧ 0 ≤ tlH t.hs ∧ tlH t.hs ≤ 2000000000000 := by
  have h1 := h.tls.sums
  have h2 := h.most
  omega
theorem Ht.Fit.left {l r : Ht} (h : (Ht.node l r).Fit) : l.Fit := ⟨h.full.2.2.1, h.tls.left, by have := h.most; rw [Ht.hs, List.length_append] at this; omega⟩
theorem Ht.Fit.right {l r : Ht} (h : (Ht.node l r).Fit) : r.Fit := ⟨h.full.2.2.2, h.tls.right, by have := h.most; rw [Ht.hs, List.length_append] at this; omega⟩
set_option maxRecDepth 100000 in
/-- two parts that are even enough, one behind the other -/
theorem htie_any (l r : Ht) (lv rv : Value) (w : World) (hl : isH B l lv w) (hr : isH B r rv w) (hf : (Ht.node l r).Fit) :
    Calls Try.prog 87 #[lv, rv] w (HAns (isH B (.node l r)) w) := by
  obtain ⟨hB, F1, hl, hb1⟩ := hl
  obtain ⟨_, F2, hr, hb2⟩ := hr
  obtain ⟨k1, a0, a1, a2, rfl, h1⟩ := hl.noted hf.full.1
  obtain ⟨k2, b0, b1, b2, rfl, h2⟩ := hr.noted hf.full.2.1
  have f1 := hf.left.sums
  have f2 := hf.right.sums
  have f3 := hf.left.lev
  have f4 := hf.right.lev
  have f5 := hf.most
  rw [Ht.hs, List.length_append] at f5
  unfold hnodeC at h1 h2
  have HN := Lib.hid (noted_two k1 k2 a0 a1 a2 b0 b1 b2 l.hs.length r.hs.length l.lev r.lev (tlR l.hs) (tlH l.hs) (tlR r.hs) (tlH r.hs) w h1 h2 f5 ⟨f3, f4⟩ ⟨by omega, by omega⟩ ⟨by omega, by omega⟩)
  have HT : Hid (∀ (w' : World) (g : Nat), w.heap.size ≤ g → AnyLater w w' → w'.heap[g]? = some (.cells #[.pointer (some ⟨k1, 0, none⟩), .pointer (some ⟨k2, 0, none⟩), .slice none 0 0, .int .i64 ((l.hs.length + r.hs.length : Nat) : Int), .int .i64 (tlR l.hs + tlR r.hs), .int .i64 (tlH l.hs + tlH r.hs), .int .i64 ((1 + max l.lev r.lev : Nat) : Int)] 119) → isH B (.node l r) (.pointer (some ⟨g, 0, none⟩)) w') := Lib.hid (fun w' g hlg a hg => by
    refine ⟨Nat.le_trans hB a.below.size, _, ⟨g, _, _, F1, F2, rfl, rfl, hf.full.1, hf.full.2.1, ?_, hl.later a, hr.later a⟩, fun b q => ?_⟩
    · unfold hnodeC
      rw [Ht.hs, List.length_append, tlR_append, tlH_append]
      exact hg
    · rcases List.mem_cons.1 q with rfl | q
      · exact Nat.le_trans hB hlg
      · rcases List.mem_append.1 q with q | q
        · exact hb1 b q
        · exact hb2 b q)
  clear hl hr h1 h2 f1 f2 f3 f4 f5 hf hb1 hb2 hB
  generalize l.hs.length + r.hs.length = N at *
  generalize tlR l.hs + tlR r.hs = R at *
  generalize tlH l.hs + tlH r.hs = H at *
  generalize max l.lev r.lev = M at *
  go_enter Try.func87, Try.ntmps87
  go_wp2_with fail
  refine HN.out.mono ?_
  rintro e w1 ⟨g, rfl, hlg, b1, hg⟩
  have HG := Lib.hid (And.intro b1 (And.intro hg hlg))
  clear b1 hg hlg
  go_wp2_with fail
  go_ret
  exact ⟨_, rfl, HG.out.1, HT.out _ _ HG.out.2.2 HG.out.1 HG.out.2.1⟩
set_option maxRecDepth 100000 in
/-- whether a part is too deep to stand beside another one -/
theorem hdeeper_any (l r : Ht) (lv rv : Value) (w : World) (c : Bool) (hc : decide (r.lev + 1 < l.lev) = c) (hl : isH B l lv w) (hr : isH B r rv w) (nl : l ≠ .nil) (nr : r ≠ .nil) (h1 : l.lev ≤ 90000) (h2 : r.lev ≤ 90000) :
    Calls Try.prog 85 #[lv, rv] w fun e w' => e = .returned (.bool c) ∧ AnyLater w w' := by
  obtain ⟨k1, a0, a1, a2, rfl, h3⟩ := hl.noted nl
  obtain ⟨k2, b0, b1, b2, rfl, h4⟩ := hr.noted nr
  have HC : Hid (decide ((r.lev : Int) + 1 < (l.lev : Int)) = c) := Lib.hid (by rw [← hc]; simp only [decide_eq_decide]; omega)
  unfold hnodeC at h3 h4
  have r1 := own_row h3
  have r2 := own_row h4
  clear hl hr hc h3 h4 nl nr
  generalize l.lev = x at *
  generalize r.lev = y at *
  go_enter Try.func85, Try.ntmps85
  go_wp2_with fail
  go_quiet (fail)
  go_wp2_with fail
  go_ret
  exact ⟨ret_bool HC.out, by repeat' (first | with_reducible assumption | with_reducible exact AnyLater.refl _ | with_reducible apply AnyLater.setCell | with_reducible apply AnyLater.later | with_reducible apply AnyLater.drewN | with_reducible apply AnyLater.drew | with_reducible apply AnyLater.alloc | ((try simp only [World.size_alloc, World.size_setCell, World.size_drew]); (try dsimp only); omega))⟩
end Go.Proofs.Ytjoadlfkdkeomaa
