/- heights: the document's lines in memory; its Set, Hide, Next, Prev, Shown: by contract. Up to 45000 lines. heights: the document's Splice: by contract. Up to 45000 lines. heights: the document's Splice whatever is asked, its Shown, Next, Prev: by contract. Up to 45000 lines. heights: the law's cut to thirty; that a line is hidden; lines' heights and the document's lines side by side. -/
import Derived.Test.YtjoadlfkdkeomaaHgtM2
import Derived.Test.YtjoadlfkdkeomaaSeqR
import Derived.Test.YtjoadlfkdkeomaaBools
import Derived.LoopN
import Derived.Deep.LoopGhost
import Derived.BigRegion
import Derived.RegionTactic
import Derived.Shelf.Abstract
import Derived.ChangeKeysEq
import Derived.Deep.DeepCutAuto
import Derived.Deep.CutBlock
import Derived.Lib.AppendZeros
import Derived.Laws.StructEq
namespace Go.Proofs.Ytjoadlfkdkeomaa
set_option linter.unusedSimpArgs false
set_option linter.unusedVariables false
set_option linter.unusedSectionVars false
open Go.RowKit
variable {B : Nat}

/-! ### the document's lines -/
/-- the document's lines at xg, their heights in the block rL, what is hidden in rH -/
structure XAt (B : Nat) (w : World) (xg : Nat) (rL rH : Option Nat) (L : Qs) (H : List Bool) : Prop where
  ex : ∃ uL uH, w.heap[xg]? = some (.cells #[uL, uH] 39) ∧ OQ 33 w B uL L ∧ OB w B uH H ∧ uL.ownBlock = rL ∧ uH.ownBlock = rH
  base : B ≤ xg
  len : H.length = L.length
/-- what a change of them may change -/
def XC (xg : Nat) (rL rH : Option Nat) (b : Nat) : Prop := b = xg ∨ rL = some b ∨ rH = some b
def XDone (B : Nat) (w : World) (xg : Nat) (rL rH : Option Nat) (L : Qs) (H : List Bool) (w' : World) : Prop := ∃ sL sH, XAt B w' xg sL sH L H ∧ (∀ b, sL = some b → rL = some b ∨ w.heap.size ≤ b) ∧ (∀ b, sH = some b → rH = some b ∨ w.heap.size ≤ b) ∧ Stays (XC xg rL rH) w w'
theorem XAt.later {w w' : World} {xg : Nat} {rL rH : Option Nat} {L : Qs} {H : List Bool} (h : XAt B w xg rL rH L H) (a : AnyLater w w') : XAt B w' xg rL rH L H := by
  obtain ⟨uL, uH, h1, h2, h3, h4⟩ := h.ex
  exact ⟨⟨uL, uH, any_own a h1, OQ.later a h2, OB.later a h3, h4⟩, h.base, h.len⟩
theorem XDone.same {w w' : World} {xg : Nat} {rL rH : Option Nat} {L : Qs} {H : List Bool} (h : XAt B w xg rL rH L H) (a : AnyLater w w') : XDone B w xg rL rH L H w' := ⟨rL, rH, h.later a, fun _ e => .inl e, fun _ e => .inl e, .of a⟩
theorem row_blk {w : World} {t : TypeId} {k n C : Nat} {v : Value} {xs : List Value} (h : w.ownsRow C t k v n xs) {b : Nat} (hb : v.ownBlock = some b) : C ≤ b ∧ ∃ cs, w.heap[b]? = some (.cells cs t) := by
  rcases h.2 with ⟨rfl, _⟩ | ⟨g, cap, cur, rfl, h1, h2, _⟩
  · cases hb
  · cases hb; exact ⟨h1, cur, h2⟩
theorem XAt.kinds {w : World} {xg : Nat} {rL rH : Option Nat} {L : Qs} {H : List Bool} (h : XAt B w xg rL rH L H) {b : Nat} (hb : XC xg rL rH b) : B ≤ b ∧ ((b = xg ∧ ∃ cs, w.heap[b]? = some (.cells cs 39)) ∨ (rL = some b ∧ ∃ cs, w.heap[b]? = some (.cells cs 33)) ∨ (rH = some b ∧ ∃ cs, w.heap[b]? = some (.cells cs 4))) := by
  obtain ⟨uL, uH, h1, h2, h3, h4, h5⟩ := h.ex
  rcases hb with rfl | hb | hb
  · exact ⟨h.base, .inl ⟨rfl, _, h1⟩⟩
  · obtain ⟨k1, k2⟩ := row_blk h2 (h4.trans hb)
    exact ⟨k1, .inr (.inl ⟨hb, k2⟩)⟩
  · obtain ⟨k1, k2⟩ := row_blk h3 (h5.trans hb)
    exact ⟨k1, .inr (.inr ⟨hb, k2⟩)⟩
theorem XAt.lt {w : World} {xg : Nat} {rL rH : Option Nat} {L : Qs} {H : List Bool} (h : XAt B w xg rL rH L H) {b : Nat} (hb : XC xg rL rH b) : b < w.heap.size := by
  rcases (h.kinds hb).2 with ⟨_, _, e⟩ | ⟨_, _, e⟩ | ⟨_, _, e⟩ <;> exact own_lt e
theorem XAt.stays {S : Nat → Prop} {w w' : World} {xg : Nat} {rL rH : Option Nat} {L : Qs} {H : List Bool} (h : XAt B w xg rL rH L H) (st : Stays S w w') (hS : ∀ b, XC xg rL rH b → ¬ S b) : XAt B w' xg rL rH L H := by
  obtain ⟨uL, uH, h1, h2, h3, h4, h5⟩ := h.ex
  exact ⟨⟨uL, uH, st.own h1 (hS _ (.inl rfl)), own_row_stays h2 st (fun b hb => hS b (.inr (.inl (by rw [← h4]; exact hb)))), own_row_stays h3 st (fun b hb => hS b (.inr (.inr (by rw [← h5]; exact hb)))), h4, h5⟩, h.base, h.len⟩
/-- as the walk sees them -/
theorem XAt.form {w : World} {xg : Nat} {rL rH : Option Nat} {L : Qs} {H : List Bool} (h : XAt B w xg rL rH L H) : ∃ A1 k1 A2 k2, w.heap[xg]? = some (.cells #[.slice A1 L.length k1, .slice A2 L.length k2] 39) ∧ OQ 33 w B (.slice A1 L.length k1) L ∧ OB w B (.slice A2 L.length k2) H ∧ (Value.slice A1 L.length k1).ownBlock = rL ∧ (Value.slice A2 L.length k2).ownBlock = rH := by
  obtain ⟨uL, uH, h1, h2, h3, h4, h5⟩ := h.ex
  obtain ⟨A1, k1, rfl, _⟩ := (OQ.rq h2).form
  obtain ⟨A2, k2, e, _⟩ := h3.form
  rw [h.len] at e
  subst e
  exact ⟨A1, k1, A2, k2, h1, h2, h3, h4, h5⟩

/-! ### Set -/
set_option maxRecDepth 100000 in
theorem xset_range (xg : Nat) (rL rH : Option Nat) (L : Qs) (H : List Bool) (i x y : Int) (w : World) (h : XAt B w xg rL rH L H) (hi : ¬ (0 ≤ i ∧ i < L.length)) : Calls Try.prog 30 #[.pointer (some ⟨xg, 0, none⟩), .int .i64 i, .agg #[.int .i64 x, .int .i64 y]] w fun e w' => e = .returned (.int .i64 1) ∧ AnyLater w w' := by
  obtain ⟨A1, k1, A2, k2, h1, -⟩ := h.form
  have s0_w := h1
  have r0_w := own_row h1
  have l0_w := own_lt h1
  clear h h1
  generalize L.length = n at *
  by_cases h0 : i < 0
  · clear hi
    have d0 : decide (i < 0) = true := decide_eq_true h0
    go_enter Try.func30, Try.ntmps30
    go_wp2_with fail
    go_ret
    exact ⟨rfl, by repeat' (first | with_reducible assumption | with_reducible exact AnyLater.refl _ | with_reducible apply AnyLater.setCell | with_reducible apply AnyLater.later | with_reducible apply AnyLater.drewN | with_reducible apply AnyLater.drew | with_reducible apply AnyLater.alloc | ((try simp only [World.size_alloc, World.size_setCell, World.size_drew]); (try dsimp only); omega))⟩
  · have h1 : (n : Int) ≤ i := by omega
    have d0 : decide (i < 0) = false := decide_eq_false h0
    clear hi
    go_enter Try.func30, Try.ntmps30
    go_wp2_with fail
    go_ret
    exact ⟨rfl, by repeat' (first | with_reducible assumption | with_reducible exact AnyLater.refl _ | with_reducible apply AnyLater.setCell | with_reducible apply AnyLater.later | with_reducible apply AnyLater.drewN | with_reducible apply AnyLater.drew | with_reducible apply AnyLater.alloc | ((try simp only [World.size_alloc, World.size_setCell, World.size_drew]); (try dsimp only); omega))⟩
set_option maxRecDepth 100000 in
theorem xset_kind (xg : Nat) (rL rH : Option Nat) (L : Qs) (H : List Bool) (i : Nat) (x y : Int) (w : World) (h : XAt B w xg rL rH L H) (hi : i < L.length) (hx : tlBad (x, y) = true) : Calls Try.prog 30 #[.pointer (some ⟨xg, 0, none⟩), .int .i64 (i : Int), .agg #[.int .i64 x, .int .i64 y]] w fun e w' => e = .returned (.int .i64 5) ∧ AnyLater w w' := by
  have HM := Lib.hid (fun w' => rmay_any x y false w' (by rw [hx]; rfl))
  obtain ⟨A1, k1, A2, k2, h1, -⟩ := h.form
  have s0_w := h1
  have r0_w := own_row h1
  have f0_w := own_free h1
  have l0_w := own_lt h1
  have d0 : decide ((i : Int) < 0) = false := decide_eq_false (by omega)
  have d1 : decide (L.length ≤ i) = false := decide_eq_false (by omega)
  clear h h1 hx hi
  generalize L.length = n at *
  go_enter Try.func30, Try.ntmps30
  go_wp2_with fail
  first | refine settle_wp (fun wS => AnyLater w wS ∧ wS.heap[w.heap.size]? = some (.cells #[.int .i64 x, .int .i64 y] 33)) ?_ ?_ | refine settle_calls (fun wS => AnyLater w wS ∧ wS.heap[w.heap.size]? = some (.cells #[.int .i64 x, .int .i64 y] 33)) ?_ ?_
  · refine ⟨?_, ?_⟩
    · repeat' (first | with_reducible assumption | with_reducible exact AnyLater.refl _ | with_reducible apply AnyLater.setCell | with_reducible apply AnyLater.later | with_reducible apply AnyLater.drewN | with_reducible apply AnyLater.drew | with_reducible apply AnyLater.alloc | ((try simp only [World.size_alloc, World.size_setCell, World.size_drew]); (try dsimp only); omega))
    · ((repeat (first | with_reducible assumption | ((with_reducible apply heap_new); (try simp only [World.size_alloc, World.size_setCell, World.size_drew, World.heap_drewN]); done) | ((with_reducible apply heap_new); (try simp only [World.size_alloc, World.size_setCell, World.size_drew, World.heap_drewN]); omega) | (with_reducible refine heap_old (by (try simp only [World.size_alloc, World.size_setCell, World.size_drew, World.heap_drewN]); omega) ?_) | (with_reducible refine heap_drew ?_) | (with_reducible refine heap_far (by omega) ?_) | (with_reducible apply heap_at))); all_goals rfl)
  rintro w1 ⟨b_w1, s1_w1⟩
  have a_w1 := b_w1
  have s0_w1 := any_own b_w1 s0_w
  have r0_w1 := own_row s0_w1
  have f0_w1 := own_free s0_w1
  have l0_w1 := own_lt s0_w1
  (try clear r0_w); (try clear f0_w)
  have r1_w1 := own_row s1_w1
  have f1_w1 := own_free s1_w1
  have l1_w1 := own_lt s1_w1
  have z_w1 := b_w1.below.size
  refine (HM.out _).mono ?_
  rintro e w2 ⟨rfl, b_w2⟩
  have z_w2 := b_w2.below.size
  have a_w2 := a_w1.trans b_w2
  have s0_w2 := any_own b_w2 s0_w1
  have s1_w2 := any_own b_w2 s1_w1
  have r0_w2 := own_row s0_w2
  have f0_w2 := own_free s0_w2
  have l0_w2 := own_lt s0_w2
  have r1_w2 := own_row s1_w2
  have f1_w2 := own_free s1_w2
  have l1_w2 := own_lt s1_w2
  (try clear r0_w1); (try clear f0_w1)
  (try clear r1_w1); (try clear f1_w1)
  go_wp2_with fail
  go_ret
  exact ⟨rfl, a_w2⟩
theorem OQ.blk {w : World} {A : Option Addr} {n cap C : Nat} {l : Qs} (h : OQ 33 w C (.slice A n cap) l) (h0 : 0 < l.length) : ∃ g, A = some ⟨g, 0, none⟩ ∧ C ≤ g ∧ ∃ cur, w.heap[g]? = some (.cells cur 33) := by
  rcases h.2 with ⟨_, e⟩ | ⟨g, cap', cur, e, h2, h3, _⟩
  · omega
  · cases e; exact ⟨g, rfl, h2, cur, h3⟩
set_option maxRecDepth 100000 in
set_option maxHeartbeats 1600000 in
theorem xset_yes (xg : Nat) (rL rH : Option Nat) (L : Qs) (H : List Bool) (i : Nat) (x y : Int) (w : World) (h : XAt B w xg rL rH L H) (hi : i < L.length) (hx : tlBad (x, y) = false) : Calls Try.prog 30 #[.pointer (some ⟨xg, 0, none⟩), .int .i64 (i : Int), .agg #[.int .i64 x, .int .i64 y]] w fun e w' => e = .returned (.int .i64 0) ∧ XDone B w xg rL rH (L.set i (x, y)) H w' := by
  have HM := Lib.hid (fun w' => rmay_any x y true w' (by rw [hx]; rfl))
  have hbase := h.base
  have hlen := h.len
  obtain ⟨A1, k1, A2, k2, h1, h2, h3, h4, h5⟩ := h.form
  obtain ⟨g, rfl, hg, cur, hcur⟩ := OQ.blk h2 (by omega)
  obtain ⟨b', off', e7, hbl, c4, c5⟩ := (OQ.rq h2).at i hi
  cases e7
  simp only [Nat.zero_add] at c4 c5
  have hgx : g ≠ xg := fun e => by rw [e, h1] at hcur; cases hcur
  have HF : Hid (∀ w1, AnyLater w w1 → XDone B w xg rL rH (L.set i (x, y)) H ((w1.setCell ⟨g, i * 2, none⟩ (.int .i64 x)).setCell ⟨g, i * 2 + 1, none⟩ (.int .i64 y))) := Lib.hid (fun w1 a => by
    have st : Stays (fun b => b = g) w1 ((w1.setCell ⟨g, i * 2, none⟩ (.int .i64 x)).setCell ⟨g, i * 2 + 1, none⟩ (.int .i64 y)) := ((Stays.refl _ _).setCell (S := fun b => b = g) rfl _).setCell (S := fun b => b = g) rfl _
    refine ⟨rL, rH, ⟨⟨_, _, st.own (any_own a h1) (fun e => hgx e.symm), OQ.set (x, y) (OQ.later a h2) hi, own_row_stays (OB.later a h3) st (fun b hb e => ?_), h4, h5⟩, hbase, by rw [List.length_set]; exact hlen⟩, fun _ e => .inl e, fun _ e => .inl e, (Stays.of a).more (S := XC xg rL rH) st (fun b hb => .inl (.inr (.inl (by rw [hb, ← h4]; rfl))))⟩
    obtain ⟨_, cs, e2⟩ := row_blk h3 hb
    rw [e, hcur] at e2
    cases e2)
  have fb : w.frozen? ⟨g, i * 2, none⟩ = false := own_free hcur _
  have fb2 : w.frozen? ⟨g, i * 2 + 1, none⟩ = false := own_free hcur _
  have s0_w := h1
  have r0_w := own_row h1
  have f0_w := own_free h1
  have l0_w := own_lt h1
  have HG := Lib.hid hcur
  have d0 : decide ((i : Int) < 0) = false := decide_eq_false (by omega)
  have d1 : decide (L.length ≤ i) = false := decide_eq_false (by omega)
  have HC4 := Lib.hid (fun (w' : World) (a : AnyLater w w') => (a.below.cell hbl).trans c4)
  have HC5 := Lib.hid (fun (w' : World) (a : AnyLater w w') => (a.below.cell hbl).trans c5)
  have hi2 : i < L.length := hi
  generalize L[i].1 = u0 at *
  generalize L[i].2 = u1 at *
  clear h h1 h2 h3 h4 h5 hx hi hcur c4 c5 fb fb2 hbase hlen
  generalize L.set i (x, y) = L2 at *
  generalize L.length = n at *
  go_enter Try.func30, Try.ntmps30
  go_wp2_with fail
  first | refine settle_wp (fun wS => AnyLater w wS ∧ wS.heap[w.heap.size]? = some (.cells #[.int .i64 x, .int .i64 y] 33)) ?_ ?_ | refine settle_calls (fun wS => AnyLater w wS ∧ wS.heap[w.heap.size]? = some (.cells #[.int .i64 x, .int .i64 y] 33)) ?_ ?_
  · refine ⟨?_, ?_⟩
    · repeat' (first | with_reducible assumption | with_reducible exact AnyLater.refl _ | with_reducible apply AnyLater.setCell | with_reducible apply AnyLater.later | with_reducible apply AnyLater.drewN | with_reducible apply AnyLater.drew | with_reducible apply AnyLater.alloc | ((try simp only [World.size_alloc, World.size_setCell, World.size_drew]); (try dsimp only); omega))
    · ((repeat (first | with_reducible assumption | ((with_reducible apply heap_new); (try simp only [World.size_alloc, World.size_setCell, World.size_drew, World.heap_drewN]); done) | ((with_reducible apply heap_new); (try simp only [World.size_alloc, World.size_setCell, World.size_drew, World.heap_drewN]); omega) | (with_reducible refine heap_old (by (try simp only [World.size_alloc, World.size_setCell, World.size_drew, World.heap_drewN]); omega) ?_) | (with_reducible refine heap_drew ?_) | (with_reducible refine heap_far (by omega) ?_) | (with_reducible apply heap_at))); all_goals rfl)
  rintro w1 ⟨b_w1, s1_w1⟩
  have a_w1 := b_w1
  have s0_w1 := any_own b_w1 s0_w
  have r0_w1 := own_row s0_w1
  have f0_w1 := own_free s0_w1
  have l0_w1 := own_lt s0_w1
  (try clear r0_w); (try clear f0_w)
  have r1_w1 := own_row s1_w1
  have f1_w1 := own_free s1_w1
  have l1_w1 := own_lt s1_w1
  have z_w1 := b_w1.below.size
  refine (HM.out _).mono ?_
  rintro e w2 ⟨rfl, b_w2⟩
  have z_w2 := b_w2.below.size
  have a_w2 := a_w1.trans b_w2
  have s0_w2 := any_own b_w2 s0_w1
  have s1_w2 := any_own b_w2 s1_w1
  have r0_w2 := own_row s0_w2
  have f0_w2 := own_free s0_w2
  have l0_w2 := own_lt s0_w2
  have r1_w2 := own_row s1_w2
  have f1_w2 := own_free s1_w2
  have l1_w2 := own_lt s1_w2
  (try clear r0_w1); (try clear f0_w1)
  (try clear r1_w1); (try clear f1_w1)
  go_wp2_with fail
  apply wp_region_mem (7) [] (by kernel_rfl) (by kernel_rfl) (by simp)
  case hstab =>
    intro e he v x y hxy hv
    simp only [List.mem_cons, List.not_mem_nil, or_false] at he
  case hlex =>
    intro U
    have q0 := fun (v : Later (later U)) => own_row (any_own ⟨v, rfl⟩ (any_own ⟨U, rfl⟩ s0_w2))
    have q1 := fun (v : Later (later U)) => own_row (any_own ⟨v, rfl⟩ (any_own ⟨U, rfl⟩ s1_w2))
    simp only [absFrom, absOp, idx, List.map_cons, List.map_nil, List.contains_cons, List.contains_nil, Nat.reduceBEq, Bool.or_false, Bool.false_or, Bool.true_or, Bool.or_true, Bool.false_eq_true, Nat.reduceLeDiff, Nat.reduceAdd, if_false, if_true]
    repeat (go_big_quiet_step (fail))
    exact wpQuiet_nil rfl
  case hown =>
    intro e he o ho
    simp only [List.mem_cons, List.not_mem_nil, or_false] at he
  case htail =>
    intro g u hst hne
    have b_w3 : AnyLater w2 (later u) := ⟨u, rfl⟩
    generalize later u = w3 at *
    clear u
    clear hst hne
    simp only [fillAll, Act.put, List.setIfInBounds_toArray, List.set_cons_zero, List.set_cons_succ, List.drop_succ_cons, List.drop_zero]
    have z_w3 := b_w3.below.size
    have a_w3 := a_w2.trans b_w3
    have s0_w3 := any_own b_w3 s0_w2
    have s1_w3 := any_own b_w3 s1_w2
    have r0_w3 := own_row s0_w3
    have f0_w3 := own_free s0_w3
    have l0_w3 := own_lt s0_w3
    have r1_w3 := own_row s1_w3
    have f1_w3 := own_free s1_w3
    have l1_w3 := own_lt s1_w3
    (try clear r0_w2); (try clear f0_w2)
    (try clear r1_w2); (try clear f1_w2)
    have c4 := HC4.out w3 a_w3
    have c5 := HC5.out w3 a_w3
    have fb := own_free (any_own a_w3 HG.out)
    have lb := own_lt (any_own a_w3 HG.out)
    go_wp2_with fail
    go_ret
    exact ⟨rfl, HF.out w3 a_w3⟩
theorem xset_any (xg : Nat) (rL rH : Option Nat) (L : Qs) (H : List Bool) (i x y : Int) (w : World) (h : XAt B w xg rL rH L H) : Calls Try.prog 30 #[.pointer (some ⟨xg, 0, none⟩), .int .i64 i, .agg #[.int .i64 x, .int .i64 y]] w fun e w' => e = .returned (.int .i64 (setC L i (x, y))) ∧ XDone B w xg rL rH (setO L i (x, y)) H w' := by
  by_cases h1 : 0 ≤ i ∧ i < L.length
  · cases h2 : tlBad (x, y)
    · obtain ⟨n, rfl⟩ := Int.eq_ofNat_of_zero_le h1.1
      have e1 : setC L n (x, y) = 0 := by unfold setC; rw [if_neg (fun c => c h1), h2]; rfl
      have e2 : setO L n (x, y) = L.set n (x, y) := by unfold setO; rw [if_pos e1]; rfl
      rw [e1, e2]
      exact xset_yes xg rL rH L H n x y w h (by omega) h2
    · obtain ⟨n, rfl⟩ := Int.eq_ofNat_of_zero_le h1.1
      have e1 : setC L n (x, y) = 5 := by unfold setC; rw [if_neg (fun c => c h1), h2]; rfl
      have e2 : setO L n (x, y) = L := by unfold setO; rw [if_neg (by rw [e1]; decide)]
      rw [e1, e2]
      refine (xset_kind xg rL rH L H n x y w h (by omega) h2).mono ?_
      rintro e w' ⟨rfl, a⟩
      exact ⟨rfl, XDone.same h a⟩
  · have e1 : setC L i (x, y) = 1 := by unfold setC; rw [if_pos h1]
    have e2 : setO L i (x, y) = L := by unfold setO; rw [if_neg (by rw [e1]; decide)]
    rw [e1, e2]
    refine (xset_range xg rL rH L H i x y w h h1).mono ?_
    rintro e w' ⟨rfl, a⟩
    exact ⟨rfl, XDone.same h a⟩

/-! ### Hide -/
set_option maxRecDepth 100000 in
theorem xhide_range (xg : Nat) (rL rH : Option Nat) (L : Qs) (H : List Bool) (i : Int) (on : Bool) (w : World) (h : XAt B w xg rL rH L H) (hi : ¬ (0 ≤ i ∧ i < L.length)) : Calls Try.prog 31 #[.pointer (some ⟨xg, 0, none⟩), .int .i64 i, .bool on] w fun e w' => e = .returned (.int .i64 1) ∧ AnyLater w w' := by
  obtain ⟨A1, k1, A2, k2, h1, -⟩ := h.form
  have r0_w := own_row h1
  have l0_w := own_lt h1
  clear h h1
  generalize L.length = n at *
  by_cases h0 : i < 0
  · clear hi
    have d0 : decide (i < 0) = true := decide_eq_true h0
    go_enter Try.func31, Try.ntmps31
    go_wp2_with fail
    go_ret
    exact ⟨rfl, AnyLater.refl _⟩
  · have h1 : (n : Int) ≤ i := by omega
    have d0 : decide (i < 0) = false := decide_eq_false h0
    clear hi
    go_enter Try.func31, Try.ntmps31
    go_wp2_with fail
    go_ret
    exact ⟨rfl, AnyLater.refl _⟩
set_option maxRecDepth 100000 in
set_option maxHeartbeats 800000 in
theorem xhide_yes (xg : Nat) (rL rH : Option Nat) (L : Qs) (H : List Bool) (i : Nat) (on : Bool) (w : World) (h : XAt B w xg rL rH L H) (hi : i < L.length) : Calls Try.prog 31 #[.pointer (some ⟨xg, 0, none⟩), .int .i64 (i : Int), .bool on] w fun e w' => e = .returned (.int .i64 0) ∧ XDone B w xg rL rH L (H.set i on) w' := by
  have hbase := h.base
  have hlen := h.len
  obtain ⟨A1, k1, A2, k2, h1, h2, h3, h4, h5⟩ := h.form
  obtain ⟨g, cap, cur, e, e1, e2, e3, e4, e5, e6⟩ := OB.at h3 (by omega)
  simp only [Value.slice.injEq] at e
  obtain ⟨rfl, -, rfl⟩ := e
  have hgx : g ≠ xg := fun e => by rw [e, h1] at e2; cases e2
  have hH : i < H.length := by omega
  have hput := OB.put on e1 e2 e3 e4 e5 e6 hH
  rw [hlen] at hput
  have HF : Hid (XDone B w xg rL rH L (H.set i on) (w.setCell ⟨g, i, none⟩ (.bool on))) := Lib.hid (by
    have st : Stays (fun b => b = g) w (w.setCell ⟨g, i, none⟩ (.bool on)) := (Stays.refl _ _).setCell (S := fun b => b = g) rfl _
    refine ⟨rL, rH, ⟨⟨_, _, st.own h1 (fun e => hgx e.symm), own_row_stays h2 st (fun b hb e => ?_), hput, h4, h5⟩, hbase, by rw [List.length_set]; exact hlen⟩, fun _ e => .inl e, fun _ e => .inl e, st.wide (fun b _ hb => .inr (.inr (by rw [hb, ← h5]; rfl)))⟩
    obtain ⟨_, cs, e7⟩ := row_blk h2 hb
    rw [e, e2] at e7
    cases e7)
  obtain ⟨b', off', e7, hbl, c4⟩ := (OB.rb h3).at i hH
  cases e7
  rw [Nat.zero_add] at c4
  have fb : w.frozen? ⟨g, i, none⟩ = false := own_free e2 _
  have lb := own_lt e2
  have r0_w := own_row h1
  have l0_w := own_lt h1
  have d0 : decide ((i : Int) < 0) = false := decide_eq_false (by omega)
  have d1 : decide (L.length ≤ i) = false := decide_eq_false (by omega)
  have hi2 : i < L.length := hi
  generalize H[i] = u0 at *
  clear h h1 h2 h3 h4 h5 hi e1 e2 e3 e4 e5 e6 hput hbase hlen hH
  generalize H.set i on = H2 at *
  generalize L.length = n at *
  go_enter Try.func31, Try.ntmps31
  go_wp2_with fail
  go_ret
  exact ⟨rfl, HF.out⟩
theorem xhide_any (xg : Nat) (rL rH : Option Nat) (L : Qs) (H : List Bool) (i : Int) (on : Bool) (w : World) (h : XAt B w xg rL rH L H) : Calls Try.prog 31 #[.pointer (some ⟨xg, 0, none⟩), .int .i64 i, .bool on] w fun e w' => e = .returned (.int .i64 (hdC L.length i)) ∧ XDone B w xg rL rH L (hdO H i on) w' := by
  unfold hdC hdO
  by_cases hi : 0 ≤ i ∧ i < L.length
  · rw [if_pos hi, if_pos (by rw [h.len]; exact hi)]
    obtain ⟨j, rfl⟩ := Int.eq_ofNat_of_zero_le hi.1
    exact xhide_yes xg rL rH L H j on w h (by omega)
  · rw [if_neg hi, if_neg (by rw [h.len]; exact hi)]
    refine (xhide_range xg rL rH L H i on w h hi).mono ?_
    rintro e w' ⟨rfl, a⟩
    exact ⟨rfl, XDone.same h a⟩
end Go.Proofs.Ytjoadlfkdkeomaa
namespace Go.Proofs.Ytjoadlfkdkeomaa
set_option linter.unusedSimpArgs false
set_option linter.unusedVariables false
set_option linter.unusedSectionVars false
open Go.RowKit
variable {B : Nat}

set_option maxRecDepth 100000 in
set_option maxHeartbeats 800000 in
theorem xsp_range (xg : Nat) (rL rH : Option Nat) (L : Qs) (H : List Bool) (i n : Int) (u : Value) (w : World) (h : XAt B w xg rL rH L H) (hu : ∃ A k cap, u = .slice A k cap) (hl : L.length ≤ 45000) (hi : ¬ ClcSpan i n L.length) : Calls Try.prog 32 #[.pointer (some ⟨xg, 0, none⟩), .int .i64 i, .int .i64 n, u] w fun e w' => e = .returned (.int .i64 1) ∧ AnyLater w w' := by
  obtain ⟨A1, k1, A2, k2, h1, -⟩ := h.form
  obtain ⟨A, k, cap, rfl⟩ := hu
  have r0_w := own_row h1
  have l0_w := own_lt h1
  unfold ClcSpan at hi
  clear h h1
  generalize L.length = m at *
  by_cases h0 : i < 0
  · clear hi
    have d0 : decide (i < 0) = true := decide_eq_true h0
    go_enter Try.func32, Try.ntmps32
    go_wp2_with fail
    go_ret
    exact ⟨rfl, AnyLater.refl _⟩
  · have d0 : decide (i < 0) = false := decide_eq_false h0
    by_cases h1 : n < 0
    · clear hi
      have d1 : decide (n < 0) = true := decide_eq_true h1
      go_enter Try.func32, Try.ntmps32
      go_wp2_with fail
      go_ret
      exact ⟨rfl, AnyLater.refl _⟩
    · have d1 : decide (n < 0) = false := decide_eq_false h1
      by_cases h2 : (m : Int) < i
      · clear hi
        have d2 : decide ((m : Int) < i) = true := decide_eq_true h2
        go_enter Try.func32, Try.ntmps32
        go_wp2_with fail
        go_ret
        exact ⟨rfl, AnyLater.refl _⟩
      · have d2 : decide ((m : Int) < i) = false := decide_eq_false h2
        have h3 : (m : Int) - i < n := by omega
        have h4 : 0 ≤ (m : Int) - i := by omega
        have h5 : (m : Int) - i ≤ 45000 := by omega
        have d3 : decide ((m : Int) - i < n) = true := decide_eq_true h3
        clear hi
        go_enter Try.func32, Try.ntmps32
        go_wp2_with fail
        go_ret
        exact ⟨rfl, AnyLater.refl _⟩
set_option maxRecDepth 100000 in
set_option maxHeartbeats 800000 in
theorem xsp_kind (xg : Nat) (rL rH : Option Nat) (L m : Qs) (H : List Bool) (i n : Nat) (u : Value) (w : World) (h : XAt B w xg rL rH L H) (hu : QR w u m) (hi : i + n ≤ L.length) (hm : m.length ≤ 45000) (hl : L.length ≤ 45000) (hb : m.any tlBad = true) : Calls Try.prog 32 #[.pointer (some ⟨xg, 0, none⟩), .int .i64 (i : Int), .int .i64 (n : Int), u] w fun e w' => e = .returned (.int .i64 5) ∧ AnyLater w w' := by
  have HAl := Lib.hid (fun (w' : World) (a : AnyLater w w') => rall_any u m false w' (by rw [hb]; rfl) (hu.later a) (by omega))
  obtain ⟨A1, k1, A2, k2, h1, -⟩ := h.form
  obtain ⟨A, cap, rfl, -⟩ := hu.form
  have r0_w := own_row h1
  have l0_w := own_lt h1
  have d0 : decide ((i : Int) < 0) = false := decide_eq_false (by omega)
  have d1 : decide ((n : Int) < 0) = false := decide_eq_false (by omega)
  have d2 : decide (L.length < i) = false := decide_eq_false (by omega)
  have d3 : decide ((L.length : Int) - (i : Int) < (n : Int)) = false := decide_eq_false (by omega)
  have hl2 : (L.length : Int) - (i : Int) ≤ 45000 := by omega
  have hl3 : 0 ≤ (L.length : Int) - (i : Int) := by omega
  clear h h1 hu hi hb
  generalize L.length = k at *
  go_enter Try.func32, Try.ntmps32
  go_wp2_with fail
  refine (HAl.out _ (AnyLater.refl w)).mono ?_
  rintro e w1 ⟨rfl, b1⟩
  have HB := Lib.hid b1
  clear b1
  go_wp2_with fail
  go_ret
  exact ⟨rfl, HB.out⟩
def stX (x0 x1 x2 x3 x4 : World) : Nat → (Nat → Value) → World → Prop
  | 0, _, x => x = x0
  | 1, _, x => x = x1
  | 2, _, x => x = x2
  | 3, _, x => x = x3
  | _, _, x => x = x4
set_option maxRecDepth 100000 in
set_option maxHeartbeats 1600000 in
theorem xsp_yes (xg : Nat) (rL rH : Option Nat) (L m : Qs) (H : List Bool) (i n : Nat) (u : Value) (w : World) (h : XAt B w xg rL rH L H) (hB : B ≤ w.heap.size) (hu : QR w u m) (hi : i + n ≤ L.length) (hm : L.length + m.length ≤ 45000) (hb : m.any tlBad = false) : Calls Try.prog 32 #[.pointer (some ⟨xg, 0, none⟩), .int .i64 (i : Int), .int .i64 (n : Int), u] w fun e w' => e = .returned (.int .i64 0) ∧ XDone B w xg rL rH (spL L m i n) (spH H m.length i n) w' := by
  have HAl := Lib.hid (fun (w' : World) (a : AnyLater w w') => rall_any u m true w' (by rw [hb]; rfl) (hu.later a) (by omega))
  have hbase := h.base
  have hlen := h.len
  obtain ⟨A1, k1, A2, k2, h1, h2, h3, h4, h5⟩ := h.form
  -- cuts
  obtain ⟨A3, c3, q3, e3⟩ := (OQ.rq h2).uptoQ pairTall i (by omega)
  obtain ⟨u4, q4, e4⟩ := (OQ.rq h2).cutQ pairTall (i + n) (by omega)
  obtain ⟨A5, c5, q5, e5⟩ := (OB.rb h3).uptoB i (by omega)
  obtain ⟨u6, q6, e6⟩ := (OB.rb h3).cutB (i + n) (by omega)
  obtain ⟨A4, c4, rfl, -⟩ := q4.form
  obtain ⟨A6, c6, rfl, -⟩ := q6.form
  obtain ⟨A, cap, rfl, -⟩ := hu.form
  have HQ := Lib.hid (And.intro q3 (And.intro q4 (And.intro q5 (And.intro q6 hu))))
  have HLn : Hid ((L.take i).length = i ∧ (L.drop (i + n)).length = L.length - (i + n) ∧ (H.take i).length = i ∧ (H.drop (i + n)).length = L.length - (i + n) ∧ i + n ≤ L.length ∧ L.length + m.length ≤ 45000) := Lib.hid ⟨by rw [List.length_take]; omega, by rw [List.length_drop], by rw [List.length_take]; omega, by rw [List.length_drop, hlen], hi, hm⟩
  have HXA : Hid (∀ (w' : World), Stays (fun b => b = xg) w w' → ∀ v1 v2, w'.heap[xg]? = some (.cells #[v1, v2] 39) → OQ 33 w' w.heap.size v1 (spL L m i n) → OB w' w.heap.size v2 (spH H m.length i n) → XDone B w xg rL rH (spL L m i n) (spH H m.length i n) w') := Lib.hid (fun w' st v1 v2 hx o1 o2 => by
    refine ⟨v1.ownBlock, v2.ownBlock, ⟨⟨v1, v2, hx, OQ.wide hB o1, OB.wide hB o2, rfl, rfl⟩, hbase, spH_len hlen⟩, fun b hb => .inr (row_blk o1 hb).1, fun b hb => .inr (row_blk o2 hb).1, st.wide (fun b _ hb => .inl hb)⟩)
  have HRB : Hid (∀ (W : World), Stays (fun b => b = xg) w W → RB W (.slice A6 (H.drop (i + n)).length c6) (H.drop (i + n))) := Lib.hid (fun W st => by
    have o : OB W B (.slice A2 L.length k2) H := own_row_stays h3 st (fun b hb e => by
      obtain ⟨_, cs, e2⟩ := row_blk h3 hb
      rw [e, h1] at e2; cases e2)
    obtain ⟨u9, q9, e9⟩ := (OB.rb o).cutB (i + n) (by omega)
    have := (e6 W).symm.trans (e9 W)
    injection this with this
    rw [this]
    exact q9)
  have hnx : xg < w.heap.size := own_lt h1
  have s0_w := h1
  have r0_w := own_row h1
  have f0_w := own_free h1
  have l0_w := own_lt h1
  have d0 : decide ((i : Int) < 0) = false := decide_eq_false (by omega)
  have d1 : decide ((n : Int) < 0) = false := decide_eq_false (by omega)
  have d2 : decide (L.length < i) = false := decide_eq_false (by omega)
  have d3 : decide ((L.length : Int) - (i : Int) < (n : Int)) = false := decide_eq_false (by omega)
  have hl2 : (L.length : Int) - (i : Int) ≤ 45000 := by omega
  have hl3 : 0 ≤ (L.length : Int) - (i : Int) := by omega
  have hi4 : i + n ≤ 45000 := by omega
  rw [HLn.out.2.1] at e4
  rw [HLn.out.2.2.2.1] at e6
  have hcast : ((i + n : Nat) : Int) = (i : Int) + (n : Int) := by omega
  rw [hcast] at e4 e6
  clear h h1 h2 h3 h4 h5 hu hi hb hbase hlen q3 q4 q5 q6 hB hcast
  have HML := Lib.hid (rfl : m.length = m.length)
  obtain ⟨M, hM⟩ : ∃ M, m.length = M := ⟨_, rfl⟩
  have HMM := Lib.hid hM
  rw [hM] at HXA HLn HAl hm ⊢
  obtain ⟨k, hk⟩ : ∃ k, L.length = k := ⟨_, rfl⟩
  have HK := Lib.hid hk
  rw [hk] at HLn hm s0_w r0_w d2 d3 hl2 hl3 e3 e4 e5 e6
  rw [hM] at HQ
  clear hM hk
  go_enter Try.func32, Try.ntmps32
  go_wp2_with fail
  refine (HAl.out _ (AnyLater.refl w)).mono ?_
  rintro e w1 ⟨rfl, b_w1⟩
  have z_w1 := b_w1.below.size
  have a_w1 := b_w1
  have s0_w1 := any_own b_w1 s0_w
  have r0_w1 := own_row s0_w1
  have f0_w1 := own_free s0_w1
  have l0_w1 := own_lt s0_w1
  (try clear r0_w); (try clear f0_w)
  -- append([]bool{}, x.H[:i]...)
  obtain ⟨u7, w2, g1, g2, g3⟩ := copyB (HQ.out.2.2.1.later a_w1) (by rw [HLn.out.2.2.1]; omega)
  obtain ⟨A7, c7, rfl, -⟩ := g3.form
  rw [HLn.out.2.2.1] at g1 g3
  have K1 := Lib.hid g1
  have HB2 := Lib.hid (And.intro (a_w1.trans g2) (OB.wide a_w1.below.size g3))
  clear g1 g2 g3
  go_wp2_with (at_builtin; refine Lib.wpList_append_run _ rfl _ _ _ _ rfl _ _ rfl rfl _ _ K1.out ?_)
  go_loopg [9, 10] M (fun kk hv iv wr => ∃ (j : Nat) (A : Option Addr) (c : Nat), kk = M - j ∧ j ≤ M ∧ hv = .slice A (i + j) c ∧ iv = .int .i64 j ∧ AnyLater w wr ∧ OB wr w.heap.size (.slice A (i + j) c) (H.take i ++ List.replicate j false))
  case atStart => exact ⟨0, A7, c7, by omega, by omega, rfl, rfl, HB2.out.1, by simpa using HB2.out.2⟩
  case round =>
    obtain ⟨j, A, c, hkk, hj, rfl, rfl, a_wr, ho⟩ := hrel
    have hjl : (H.take i ++ List.replicate j false).length = i + j := by rw [List.length_append, List.length_replicate, HLn.out.2.2.1]
    by_cases hlt : j < M
    · obtain ⟨u8, w3, g1, g2, g3⟩ := appB1 false ho a_wr.below.size (by rw [hjl]; omega)
      obtain ⟨A8, c8, rfl, -⟩ := g2.form
      have e8 : H.take i ++ List.replicate j false ++ [false] = H.take i ++ List.replicate (j + 1) false := by rw [List.append_assoc, List.replicate_succ']
      have e9 : (H.take i ++ List.replicate (j + 1) false).length = i + (j + 1) := by rw [List.length_append, List.length_replicate, HLn.out.2.2.1]
      rw [e8, e9] at g2 g1
      have K3 := Lib.hid g1
      have HZ := Lib.hid (And.intro (g3 w (Nat.le_refl _) a_wr) g2)
      clear g1 g2 g3 ho hjl e8 e9
      go_wp2_with (at_builtin; refine Lib.wpList_append_run _ rfl _ _ _ _ rfl _ _ rfl rfl _ _ K3.out ?_)
      go_roundg (M - (j + 1))
      case measure => omega
      case rel => exact ⟨j + 1, A8, c8, rfl, hlt, rfl, by go_num, HZ.out.1, HZ.out.2⟩
    · obtain rfl : j = M := by omega
      have HO := Lib.hid ho
      clear ho hlt hj hkk
      have s0_wr := any_own a_wr s0_w
      have r0_wr := own_row s0_wr
      have f0_wr := own_free s0_wr
      have l0_wr := own_lt s0_wr
      (try clear r0_w); (try clear f0_w); (try clear l0_w); clear r0_w1 f0_w1 l0_w1
      go_wp2_with fail
      have ha0 : AnyLater w wr.drew := a_wr.drew
      obtain ⟨u4, w4, p1, p2, p3⟩ := copyQ pairTall (HQ.out.1.later ha0) (by rw [HLn.out.1]; have := HLn.out.2.2.2.2; omega)
      have ha4 := ha0.trans p2
      obtain ⟨u6, w6, t1, t2, t3⟩ := appQ pairTall p3 (HQ.out.2.2.2.2.later ha4) p2.below.size (by rw [HLn.out.1, HMM.out]; have := HLn.out.2.2.2.2; omega)
      have ha6 : AnyLater wr.drew w6 := OQ.grown p3 (Nat.le_refl _) p2 t3
      obtain ⟨u8, w8, v1, v2, v3⟩ := appQ pairTall t2 (HQ.out.2.1.later (ha0.trans ha6)) ha6.below.size (by rw [List.length_append, HLn.out.1, HMM.out, HLn.out.2.1]; have := HLn.out.2.2.2.2; omega)
      have ha8 : AnyLater wr.drew w8 := OQ.grown t2 (Nat.le_refl _) ha6 v3
      obtain ⟨B4, g4, rfl, -⟩ := OQ.form p3
      obtain ⟨B6, g6, rfl, -⟩ := OQ.form t2
      obtain ⟨B8, g8, rfl, -⟩ := OQ.form v2
      have HV2 : Hid (OQ 33 w8 w.heap.size (.slice B8 (L.take i ++ m ++ L.drop (i + n)).length g8) (spL L m i n)) := Lib.hid (OQ.wide ha0.below.size v2)
      have n8 : (L.take i ++ m ++ L.drop (i + n)).length = i + j + (k - (i + n)) := by rw [List.length_append, List.length_append, HLn.out.1, HMM.out, HLn.out.2.1]
      have K5 := Lib.hid p1
      have K6 := Lib.hid t1
      have K7 := Lib.hid v1
      rw [show (L.take i ++ m).length = i + j by rw [List.length_append, HLn.out.1, HMM.out]] at K6 K7
      rw [HLn.out.1] at K5 K6
      rw [HLn.out.2.1] at K7
      rw [n8] at K7 HV2
      have KB := Lib.hid (And.intro ha4 (And.intro (ha0.trans ha6) (ha0.trans ha8)))
      have s0_x := any_own ha0 s0_w
      have sx4 := any_own ha4 s0_w
      have sx6 := any_own (ha0.trans ha6) s0_w
      have sx8 := any_own (ha0.trans ha8) s0_w
      clear p1 p2 p3 t1 t2 t3 v1 v2 v3 ha4 ha6 n8
      -- behind the region
      have W9 : Hid (∃ u9 w9, (Builtin.append_ #[37, 37] 37 #[.slice A (i + j) c, .slice A6 (k - (i + n)) c6]).run Try.prog (w8.setCell ⟨xg, 0, none⟩ (.slice B8 (i + j + (k - (i + n))) g8)) = .ok u9 w9 ∧ OB w9 w.heap.size u9 (spH H j i n) ∧ Stays (fun b => b = xg) w w9 ∧ w9.heap[xg]? = some (.cells #[.slice B8 (i + j + (k - (i + n))) g8, .slice A2 k k2] 39) ∧ OQ 33 w9 w.heap.size (.slice B8 (i + j + (k - (i + n))) g8) (spL L m i n)) := Lib.hid (by
        have a8 : AnyLater w w8 := ha0.trans ha8
        have st : Stays (fun b => b = xg) w (w8.setCell ⟨xg, 0, none⟩ (.slice B8 (i + j + (k - (i + n))) g8)) := (Stays.of a8).setCell (S := fun b => b = xg) rfl _
        have st1 : Stays (fun b => b = xg) w8 (w8.setCell ⟨xg, 0, none⟩ (.slice B8 (i + j + (k - (i + n))) g8)) := (Stays.refl _ _).setCell (S := fun b => b = xg) rfl _
        have oh : OB (w8.setCell ⟨xg, 0, none⟩ (.slice B8 (i + j + (k - (i + n))) g8)) w.heap.size (.slice A (i + j) c) (H.take i ++ List.replicate j false) := own_row_stays (OB.later ((AnyLater.refl wr).drew.trans ha8) HO.out) st1 (fun b hb e => by
          have := (row_blk HO.out hb).1; omega)
        have hr := HRB.out _ st
        rw [HLn.out.2.2.2.1] at hr
        obtain ⟨u9, w9, q1, q2, q3⟩ := appB oh hr st.size (by rw [List.length_append, List.length_replicate, HLn.out.2.2.1, HLn.out.2.2.2.1]; have := HLn.out.2.2.2.2; omega)
        have hbx : ∀ b, (Value.slice A (i + j) c).ownBlock = some b → w.heap.size ≤ b ∧ ∃ cs, (w8.setCell ⟨xg, 0, none⟩ (.slice B8 (i + j + (k - (i + n))) g8)).heap[b]? = some (.cells cs 4) := fun b hb => row_blk oh hb
        have st9 : Stays (fun b => (Value.slice A (i + j) c).ownBlock = some b) (w8.setCell ⟨xg, 0, none⟩ (.slice B8 (i + j + (k - (i + n))) g8)) w9 := Stays.grown q3 (fun b e => e)
        refine ⟨u9, w9, q1, q2, st.more st9 (fun b hb => .inr (hbx b hb).1), st9.own (heap_at sx8 rfl) (fun e => by have := (hbx _ e).1; omega), ?_⟩
        have o8 : OQ 33 (w8.setCell ⟨xg, 0, none⟩ (.slice B8 (i + j + (k - (i + n))) g8)) w.heap.size (.slice B8 (i + j + (k - (i + n))) g8) (spL L m i n) := own_row_stays HV2.out st1 (fun b hb e => by have := (row_blk HV2.out hb).1; omega)
        refine own_row_stays o8 st9 (fun b hb e => ?_)
        obtain ⟨_, cs, e1⟩ := row_blk o8 hb
        obtain ⟨_, cs', e2⟩ := hbx b e
        rw [e1] at e2; cases e2)
      obtain ⟨u9, w9, y1, y2, y3, y4, y5⟩ := W9.out
      have K9 := Lib.hid y1
      obtain ⟨A9, c9, rfl, -⟩ := y2.form
      have HFin : Hid (XDone B w xg rL rH (spL L m i n) (spH H j i n) (w9.setCell ⟨xg, 1, none⟩ (.slice A9 (spH H j i n).length c9))) := Lib.hid (by
        have st1 : Stays (fun b => b = xg) w9 (w9.setCell ⟨xg, 1, none⟩ (.slice A9 (spH H j i n).length c9)) := (Stays.refl _ _).setCell (S := fun b => b = xg) rfl _
        exact HXA.out _ (y3.trans st1) _ _ (heap_at y4 rfl) (own_row_stays y5 st1 (fun b hb e => by have := (row_blk y5 hb).1; omega)) (own_row_stays y2 st1 (fun b hb e => by have := (row_blk y2 hb).1; omega)))
      have r9 := own_row y4
      have f9 := own_free y4
      have l9 := own_lt y4
      clear y1 y2 y3 y4 y5 W9 ha8
      generalize (spH H j i n).length = n9 at *
      obtain ⟨x0, hx0⟩ : ∃ x0, wr.drew = x0 := ⟨_, rfl⟩
      rw [hx0] at K5 ha0 s0_x
      have HX0 := Lib.hid hx0
      apply wp_region_chain 22 [(1, .slice (some ⟨x0.heap.size, 0, none⟩) 0 0), (8, .slice B4 i g4), (10, .slice B6 (i + j) g6), (19, .slice B8 (i + j + (k - (i + n))) g8)] [] (fun x => x.heap[xg]? = some (.cells #[.slice A1 k k1, .slice A2 k k2] 39)) (stX x0 (x0.alloc (.cells #[] 33)) w4 w6 w8) (by kernel_rfl) (by kernel_rfl) (by kernel_rfl) (by simp) (by kernel_rfl) (by rw [hx0]; exact s0_x) (fun _ => hx0)
      case hlex =>
        intro U hU
        have q0 := own_row hU
        simp only [actFrom, actOp, List.lookup, Nat.reduceBEq, Nat.reduceLeDiff, Nat.reduceAdd, if_false, if_true]
        repeat (go_big_quiet_step (fail))
        exact wpQuiet_nil rfl
      case hact =>
        intro jj hjj o ho
        have hj3 : jj = 0 ∨ jj = 1 ∨ jj = 2 ∨ jj = 3 := by simp at hjj; omega
        rcases hj3 with rfl | rfl | rfl | rfl
        · cases ho
          refine ⟨rfl, fun gv x hC hS => ?_⟩
          obtain rfl : x = x0 := hS
          exact chain_value (w' := x.alloc (.cells #[] 33)) (by simp [go_sem, execOp]) ⟨any_own ((AnyLater.refl x).alloc _) hC, .inr rfl, rfl⟩
        · cases ho
          refine ⟨rfl, fun gv x hC hS => ?_⟩
          obtain rfl : x = x0.alloc (.cells #[] 33) := hS
          simp only [fillAll, Act.put, List.setIfInBounds_toArray, List.set_cons_zero, List.set_cons_succ]
          exact Whole.chain_app _ _ _ _ rfl _ _ rfl rfl K5.out ⟨sx4, .inr rfl, rfl⟩
        · cases ho
          refine ⟨rfl, fun gv x hC hS => ?_⟩
          obtain rfl : x = w4 := hS
          simp only [fillAll, Act.put, List.setIfInBounds_toArray, List.set_cons_zero, List.set_cons_succ]
          exact Whole.chain_app _ _ _ _ rfl _ _ rfl rfl K6.out ⟨sx6, .inr rfl, rfl⟩
        · cases ho
          refine ⟨rfl, fun gv x hC hS => ?_⟩
          obtain rfl : x = w6 := hS
          simp only [fillAll, Act.put, List.setIfInBounds_toArray, List.set_cons_zero, List.set_cons_succ]
          exact Whole.chain_app _ _ _ _ rfl _ _ rfl rfl K7.out ⟨sx8, .inr rfl, rfl⟩
      case htail =>
        intro gz wz hC hS
        obtain rfl : wz = w8 := hS
        clear hC
        have r8 := own_row sx8
        have f8 := own_free sx8
        have l8 := own_lt sx8
        simp only [fillAll, Act.put, List.setIfInBounds_toArray, List.set_cons_zero, List.set_cons_succ, List.drop_succ_cons, List.drop_zero, List.drop_nil]
        clear r0_wr f0_wr l0_wr s0_wr
        go_wp2_with (at_builtin; refine Lib.wpList_append_run _ rfl _ _ _ _ rfl _ _ rfl rfl _ _ K9.out ?_)
        go_ret
        exact ⟨rfl, HFin.out⟩
end Go.Proofs.Ytjoadlfkdkeomaa
namespace Go.Proofs.Ytjoadlfkdkeomaa
set_option linter.unusedSimpArgs false
set_option linter.unusedVariables false
set_option linter.unusedSectionVars false
open Go.RowKit
variable {B : Nat}

theorem xsp_any (xg : Nat) (rL rH : Option Nat) (L m : Qs) (H : List Bool) (i n : Int) (u : Value) (w : World) (h : XAt B w xg rL rH L H) (hB : B ≤ w.heap.size) (hu : QR w u m) (hm : L.length + m.length ≤ 45000) : Calls Try.prog 32 #[.pointer (some ⟨xg, 0, none⟩), .int .i64 i, .int .i64 n, u] w fun e w' => e = .returned (.int .i64 (hspC L.length i n m)) ∧ XDone B w xg rL rH (hspO L H i n m).1 (hspO L H i n m).2 w' := by
  have hu2 : ∃ A k cap, u = .slice A k cap := by
    obtain ⟨A, cap, e, _⟩ := hu.form
    exact ⟨_, _, _, e⟩
  by_cases h1 : ClcSpan i n L.length
  · obtain ⟨k1, k2, k3, k4⟩ := id h1
    obtain ⟨a, rfl⟩ := Int.eq_ofNat_of_zero_le k1
    obtain ⟨b, rfl⟩ := Int.eq_ofNat_of_zero_le k3
    cases h2 : m.any tlBad
    · have e1 : hspC L.length a b m = 0 := by unfold hspC; rw [if_neg (fun c => c h1), h2]; rfl
      have e2 : hspO L H a b m = (spL L m a b, spH H m.length a b) := by unfold hspO; rw [if_pos e1]; rfl
      rw [e1, e2]
      exact xsp_yes xg rL rH L m H a b u w h hB hu (by omega) hm h2
    · have e1 : hspC L.length a b m = 5 := by unfold hspC; rw [if_neg (fun c => c h1), h2]; rfl
      have e2 : hspO L H a b m = (L, H) := by unfold hspO; rw [if_neg (by rw [e1]; decide)]
      rw [e1, e2]
      refine (xsp_kind xg rL rH L m H a b u w h hu (by omega) (by omega) (by omega) h2).mono ?_
      rintro e w' ⟨rfl, q⟩
      exact ⟨rfl, XDone.same h q⟩
  · have e1 : hspC L.length i n m = 1 := by unfold hspC; rw [if_pos h1]
    have e2 : hspO L H i n m = (L, H) := by unfold hspO; rw [if_neg (by rw [e1]; decide)]
    rw [e1, e2]
    refine (xsp_range xg rL rH L H i n u w h hu2 (by omega) h1).mono ?_
    rintro e w' ⟨rfl, q⟩
    exact ⟨rfl, XDone.same h q⟩

/-! ### Shown -/
def mixS (L : Qs) (H : List Bool) (j : Nat) : Qs := shwL (L.take j) (H.take j) ++ L.drop j
theorem mixS_len {L : Qs} {H : List Bool} (h : H.length = L.length) (j : Nat) : (mixS L H j).length = L.length := by
  unfold mixS
  rw [List.length_append, shw_len (by rw [List.length_take, List.length_take, h]), List.length_take, List.length_drop]; omega
theorem mixS_succ {L : Qs} {H : List Bool} (h : H.length = L.length) {j : Nat} (hj : j < L.length) : mixS L H (j + 1) = if H[j]'(by omega) then (mixS L H j).set j (0, 0) else mixS L H j := by
  have hs : (shwL (L.take j) (H.take j)).length = j := by rw [shw_len (by rw [List.length_take, List.length_take, h]), List.length_take]; omega
  have e1 : shwL (L.take (j + 1)) (H.take (j + 1)) = shwL (L.take j) (H.take j) ++ [if H[j]'(by omega) then (0, 0) else L[j]] := by
    rw [List.take_succ_eq_append_getElem hj, List.take_succ_eq_append_getElem (show j < H.length by omega)]
    unfold shwL
    rw [List.zipWith_append (by rw [List.length_take, List.length_take, h])]
    rfl
  have e2 : L.drop j = L[j] :: L.drop (j + 1) := List.drop_eq_getElem_cons hj
  unfold mixS
  rw [e1, e2]
  cases hb : H[j]'(by omega)
  · simp
  · simp only [if_true]
    rw [List.set_append_right _ _ (by rw [hs]; exact Nat.le_refl _), hs, Nat.sub_self, List.append_assoc]
    rfl
theorem mixS_all {L : Qs} {H : List Bool} (h : H.length = L.length) : mixS L H L.length = shwL L H := by
  unfold mixS
  rw [List.take_length, List.drop_length, List.append_nil, List.take_of_length_le (by omega)]
set_option maxRecDepth 100000 in
set_option maxHeartbeats 1600000 in
theorem xshown_any (xg : Nat) (rL rH : Option Nat) (L : Qs) (H : List Bool) (w : World) (h : XAt B w xg rL rH L H) (hl : L.length ≤ 45000) : Calls Try.prog 15 #[.pointer (some ⟨xg, 0, none⟩)] w (RowT w (shwL L H)) := by
  have hlen := h.len
  obtain ⟨A1, k1, A2, k2, h1, h2, h3, h4, h5⟩ := h.form
  obtain ⟨u, w1, q1, q2, q3⟩ := copyQ pairTall (OQ.rq h2) (by omega)
  obtain ⟨A, c, rfl, -⟩ := OQ.form q3
  have K1 := Lib.hid q1
  have HO : Hid (AnyLater w w1 ∧ OQ 33 w1 w.heap.size (.slice A L.length c) (mixS L H 0)) := Lib.hid ⟨q2, by unfold mixS; simpa [shwL] using q3⟩
  have HRB := Lib.hid (OB.rb h3)
  have HL := Lib.hid (fun j => mixS_len hlen j)
  have HS : Hid (∀ (j : Nat), j < L.length → (H[j]? = some true → mixS L H (j + 1) = (mixS L H j).set j (0, 0)) ∧ (H[j]? = some false → mixS L H (j + 1) = mixS L H j)) := Lib.hid (fun j hj => by
    have e := mixS_succ hlen hj
    rw [List.getElem?_eq_getElem (show j < H.length by omega)]
    refine ⟨fun q => ?_, fun q => ?_⟩
    · rw [e, Option.some.inj q]; rfl
    · rw [e, Option.some.inj q]; rfl)
  have HE := Lib.hid (mixS_all hlen)
  have HH := Lib.hid hlen
  have s0_w := h1
  have r0_w := own_row h1
  have l0_w := own_lt h1
  clear h h1 h2 h3 h4 h5 q1 q2 q3 hlen
  generalize hn : L.length = n at *
  have HN := Lib.hid hn
  clear hn
  go_enter Try.func15, Try.ntmps15
  go_wp2_with (at_builtin; refine Lib.wpList_append_run _ rfl _ _ _ _ rfl _ _ rfl rfl _ _ K1.out ?_)
  go_loopg [4] n (fun kk iv wr => ∃ j : Nat, kk = n - j ∧ j ≤ n ∧ iv = .int .i64 j ∧ AnyLater w wr ∧ OQ 33 wr w.heap.size (.slice A n c) (mixS L H j))
  case atStart => exact ⟨0, by omega, by omega, rfl, HO.out.1, HO.out.2⟩
  case round =>
    obtain ⟨j, hkk, hj, rfl, a_wr, ho⟩ := hrel
    by_cases hlt : j < n
    · have hjH : j < H.length := by have := HH.out; omega
      obtain ⟨b, off, e7, hb, cH⟩ := (HRB.out).at j hjH
      subst e7
      have cH2 : wr.cell? ⟨b, off + j, none⟩ = some (.bool H[j]) := (a_wr.below.cell hb).trans cH
      have s0_wr := any_own a_wr s0_w
      have r0_wr := own_row s0_wr
      have l0_wr := own_lt s0_wr
      have hst := HS.out j hlt
      rw [List.getElem?_eq_getElem hjH] at hst
      have HO2 := Lib.hid ho
      clear cH r0_w l0_w
      cases hh : H[j] with
      | false =>
        rw [hh] at cH2 hst
        replace hst := hst.2 rfl
        have HZ := Lib.hid hst
        clear hst ho hh
        go_wp2_with fail
        go_roundg (n - (j + 1))
        case measure => omega
        case rel => exact ⟨j + 1, rfl, hlt, by go_num, a_wr, by rw [HZ.out]; exact HO2.out⟩
      | true =>
        rw [hh] at cH2 hst
        replace hst := hst.1 rfl
        have HZ := Lib.hid hst
        obtain ⟨g, rfl, hg, cur, hcur⟩ := OQ.blk ho (by rw [HL.out]; omega)
        have hjm : j < (mixS L H j).length := by rw [HL.out]; exact hlt
        obtain ⟨b', off', e8, hbl, c4, c5⟩ := (OQ.rq ho).at j hjm
        cases e8
        simp only [Nat.zero_add] at c4 c5
        have fb := own_free hcur
        have lb := own_lt hcur
        generalize (mixS L H j)[j].1 = z1 at *
        generalize (mixS L H j)[j].2 = z2 at *
        have HA : Hid (AnyLater w ((wr.setCell ⟨g, j * 2, none⟩ (.int .i64 0)).setCell ⟨g, j * 2 + 1, none⟩ (.int .i64 0)) ∧ OQ 33 ((wr.setCell ⟨g, j * 2, none⟩ (.int .i64 0)).setCell ⟨g, j * 2 + 1, none⟩ (.int .i64 0)) w.heap.size (.slice (some ⟨g, 0, none⟩) n c) (mixS L H (j + 1))) := Lib.hid (by
          refine ⟨?_, ?_⟩
          · have st : Stays (fun x => x = g) wr ((wr.setCell ⟨g, j * 2, none⟩ (.int .i64 0)).setCell ⟨g, j * 2 + 1, none⟩ (.int .i64 0)) := ((Stays.refl _ _).setCell (S := fun x => x = g) rfl _).setCell (S := fun x => x = g) rfl _
            exact st.any a_wr (fun q hq => by rw [hq]; exact hg)
          · rw [HZ.out]
            exact OQ.set (0, 0) HO2.out hjm)
        clear hst ho hh hcur hjm
        go_wp2_with fail
        go_roundg (n - (j + 1))
        case measure => omega
        case rel => exact ⟨j + 1, rfl, hlt, by go_num, HA.out.1, HA.out.2⟩
    · obtain rfl : j = n := by omega
      rw [HE.out] at ho
      have HO2 := Lib.hid ho
      clear ho
      go_wp2_with fail
      go_ret
      exact ⟨_, rfl, a_wr, HO2.out⟩

/-! ### Next, Prev -/
/-- the first line behind i that is not hidden; these are those from k on -/
def nxZ (i : Int) : List Bool → Int → Int
  | [], _ => -1
  | h :: t, k => if i < k ∧ h = false then k else nxZ i t (k + 1)
/-- the last one ahead of i, of the first n -/
def pvZ (i : Int) (H : List Bool) : Nat → Int
  | 0 => -1
  | n + 1 => if (n : Int) < i ∧ H[n]? = some false then (n : Int) else pvZ i H n
set_option maxRecDepth 100000 in
set_option maxHeartbeats 1600000 in
theorem xnext_any (xg : Nat) (rL rH : Option Nat) (L : Qs) (H : List Bool) (i : Int) (w : World) (R : Int) (hR : nxZ i H 0 = R) (h : XAt B w xg rL rH L H) (hl : L.length ≤ 45000) : Calls Try.prog 23 #[.pointer (some ⟨xg, 0, none⟩), .int .i64 i] w fun e w' => e = .returned (.int .i64 R) ∧ AnyLater w w' := by
  have hlen := h.len
  obtain ⟨A1, k1, A2, k2, h1, h2, h3, h4, h5⟩ := h.form
  have HRB := Lib.hid (OB.rb h3)
  have HH := Lib.hid hlen
  have HR := Lib.hid hR
  have r0_w := own_row h1
  have l0_w := own_lt h1
  clear h h1 h2 h3 h4 h5 hR hlen
  generalize L.length = n at *
  go_enter Try.func23, Try.ntmps23
  go_wp2_with fail
  go_loopg [5] n (fun kk iv wr => ∃ j : Nat, kk = n - j ∧ j ≤ n ∧ iv = .int .i64 j ∧ w = wr ∧ nxZ i (H.drop j) j = R)
  case atStart => exact ⟨0, by omega, by omega, rfl, rfl, HR.out⟩
  case round =>
    obtain ⟨j, hkk, hj, rfl, rfl, hr⟩ := hrel
    by_cases hlt : j < n
    · have hjH : j < H.length := by have := HH.out; omega
      obtain ⟨b, off, e7, hb, cH⟩ := (HRB.out).at j hjH
      subst e7
      rw [List.drop_eq_getElem_cons hjH, nxZ] at hr
      by_cases hi : i < (j : Int)
      · have d0 : decide (i < (j : Int)) = true := decide_eq_true hi
        cases hh : H[j] with
        | false =>
          rw [hh] at cH
          rw [if_pos ⟨hi, hh⟩] at hr
          subst hr
          clear hh
          go_wp2_with fail
          go_ret
          exact ⟨rfl, AnyLater.refl _⟩
        | true =>
          rw [hh] at cH
          rw [if_neg (fun q => by rw [hh] at q; exact absurd q.2 (by decide))] at hr
          have HZ := Lib.hid hr
          clear hr hh
          go_wp2_with fail
          go_roundg (n - (j + 1))
          case measure => omega
          case rel => exact ⟨j + 1, rfl, hlt, by go_num, rfl, HZ.out⟩
      · have d0 : decide (i < (j : Int)) = false := decide_eq_false hi
        rw [if_neg (fun q => hi q.1)] at hr
        have HZ := Lib.hid hr
        clear hr
        go_wp2_with fail
        go_roundg (n - (j + 1))
        case measure => omega
        case rel => exact ⟨j + 1, rfl, hlt, by go_num, rfl, HZ.out⟩
    · obtain rfl : j = n := by omega
      rw [List.drop_of_length_le (by have := HH.out; omega), nxZ] at hr
      subst hr
      go_wp2_with fail
      exact bodyPost_ret (v := .int .i64 (-1)) (by simp [results, Try.results23, go_sem]) rfl ⟨rfl, AnyLater.refl _⟩
set_option maxRecDepth 100000 in
set_option maxHeartbeats 1600000 in
theorem xprev_any (xg : Nat) (rL rH : Option Nat) (L : Qs) (H : List Bool) (i : Int) (w : World) (R : Int) (hR : pvZ i H L.length = R) (h : XAt B w xg rL rH L H) (hl : L.length ≤ 45000) : Calls Try.prog 24 #[.pointer (some ⟨xg, 0, none⟩), .int .i64 i] w fun e w' => e = .returned (.int .i64 R) ∧ AnyLater w w' := by
  have hlen := h.len
  obtain ⟨A1, k1, A2, k2, h1, h2, h3, h4, h5⟩ := h.form
  have HRB := Lib.hid (OB.rb h3)
  have HH := Lib.hid hlen
  have HR := Lib.hid hR
  have r0_w := own_row h1
  have l0_w := own_lt h1
  clear h h1 h2 h3 h4 h5 hR hlen
  generalize L.length = n at *
  go_enter Try.func24, Try.ntmps24
  go_wp2_with fail
  go_loopg [5] n (fun kk iv wr => ∃ (t : Nat) (z : Int), kk = t ∧ t ≤ n ∧ iv = .int .i64 z ∧ z = (t : Int) - 1 ∧ w = wr ∧ pvZ i H t = R)
  case atStart => exact ⟨n, _, rfl, Nat.le_refl _, rfl, rfl, rfl, HR.out⟩
  case round =>
    obtain ⟨t, z, hkk, ht, rfl, hz, rfl, hr⟩ := hrel
    cases t with
    | zero =>
      obtain rfl : z = -1 := by omega
      have hr : (-1 : Int) = R := hr
      subst hr
      clear hz
      go_wp2_with fail
      exact bodyPost_ret (v := .int .i64 (-1)) (by simp [results, Try.results24, go_sem]) rfl ⟨rfl, AnyLater.refl _⟩
    | succ j =>
      obtain rfl : z = (j : Int) := by omega
      have hjH : j < H.length := by have := HH.out; omega
      have hjn : j < n := by omega
      obtain ⟨b, off, e7, hb, cH⟩ := (HRB.out).at j hjH
      subst e7
      rw [pvZ, List.getElem?_eq_getElem hjH] at hr
      have dz : (0 : Int) ≤ (j : Int) := by omega
      by_cases hi : (j : Int) < i
      · have d0 : decide ((j : Int) < i) = true := decide_eq_true hi
        cases hh : H[j] with
        | false =>
          rw [hh] at cH
          rw [if_pos ⟨hi, by rw [hh]⟩] at hr
          subst hr
          clear hh hz
          go_wp2_with fail
          go_ret
          exact ⟨rfl, AnyLater.refl _⟩
        | true =>
          rw [hh] at cH
          rw [if_neg (fun q => by rw [hh] at q; exact absurd q.2 (by decide))] at hr
          have HZ := Lib.hid hr
          clear hr hh hz
          go_wp2_with fail
          go_roundg j
          case measure => omega
          case rel => exact ⟨j, _, rfl, by omega, rfl, rfl, rfl, HZ.out⟩
      · have d0 : decide ((j : Int) < i) = false := decide_eq_false hi
        rw [if_neg (fun q => hi q.1)] at hr
        have HZ := Lib.hid hr
        clear hr hz
        go_wp2_with fail
        go_roundg j
        case measure => omega
        case rel => exact ⟨j, _, rfl, by omega, rfl, rfl, rfl, HZ.out⟩
end Go.Proofs.Ytjoadlfkdkeomaa
namespace Go.Proofs.Ytjoadlfkdkeomaa
set_option linter.unusedSimpArgs false
set_option linter.unusedVariables false
set_option linter.unusedSectionVars false
open Go.RowKit
variable {B : Nat}

/-! ### the law's cut to thirty -/
set_option maxRecDepth 100000 in
theorem htfew_short (v : Value) (l : Qs) (w : World) (hv : QR w v l) (hl : l.length ≤ 30) : Calls Try.prog 9 #[v] w (RowT w l) := by
  obtain ⟨u, w2, q1, q2, q3⟩ := copyQ pairTall hv (by omega)
  have K1 := Lib.hid q1
  have K2 := Lib.hid (And.intro q2 q3)
  obtain ⟨A, cap, rfl, -⟩ := hv.form
  have d0 : decide ((30 : Int) < (l.length : Int)) = false := decide_eq_false (by omega)
  clear q1 q2 q3 hv
  generalize l.length = n at *
  go_enter Try.func9, Try.ntmps9
  go_wp2_with (at_builtin; refine Lib.wpList_append_run _ rfl _ _ _ _ rfl _ _ rfl rfl _ _ K1.out ?_)
  go_ret
  exact ⟨_, rfl, K2.out⟩
set_option maxRecDepth 100000 in
theorem htfew_long (v : Value) (l : Qs) (w : World) (hv : QR w v l) (hl : 30 < l.length) : Calls Try.prog 9 #[v] w (RowT w (l.take 30)) := by
  obtain ⟨A2, cap2, h2, hs⟩ := hv.uptoQ pairTall 30 (by omega)
  obtain ⟨u, w2, q1, q2, q3⟩ := copyQ pairTall h2 (by rw [List.length_take]; omega)
  have K1 := Lib.hid q1
  have K2 := Lib.hid (And.intro q2 q3)
  obtain ⟨A, cap, rfl, -⟩ := hv.form
  have hsl : ∀ w', (Instr.sliceAt 22 (.slice A l.length cap) none (some (.int .i64 30)) none).run Try.prog w' = .ok (.slice A2 30 cap2) w' := hs
  have d0 : (30 : Int) < (l.length : Int) := by omega
  clear q1 q2 q3 hv hs h2 hl
  generalize l.length = n at *
  go_enter Try.func9, Try.ntmps9
  go_wp2_with (at_builtin; refine Lib.wpList_append_run _ rfl _ _ _ _ rfl _ _ rfl rfl _ _ K1.out ?_)
  go_ret
  exact ⟨_, rfl, K2.out⟩
theorem htfew_any (v : Value) (l m : Qs) (w : World) (hm : l.take 30 = m) (hv : QR w v l) : Calls Try.prog 9 #[v] w (RowT w m) := by
  subst hm
  by_cases h : l.length ≤ 30
  · rw [List.take_of_length_le h]
    exact htfew_short v l w hv h
  · exact htfew_long v l w hv (by omega)

/-! ### a line is hidden -/
theorem OQ.lit {w : World} {g : Nat} {cs : Array Value} (l : Qs) (hl : l.length ≤ 1000) (h : w.heap[g]? = some (.cells cs 33)) (e : cs.toList = flatQ l) : OQ 33 w 0 (.slice (some ⟨g, 0, none⟩) l.length l.length) l := by
  have hs : cs.size = l.length * 2 := by rw [← Array.length_toList, e, flatQ_length]
  exact ⟨by rw [flatQ_length], .inr ⟨g, l.length, cs, rfl, Nat.zero_le _, h, Nat.le_refl _, by unfold maxLen; omega, hs, by rw [e, List.take_of_length_le (by rw [flatQ_length]; exact Nat.le_refl _)]⟩⟩
set_option maxRecDepth 100000 in
set_option maxHeartbeats 1600000 in
theorem hlives_any (w : World) : Calls Try.prog 10 #[] w fun e w' => e = .returned (.bool true) ∧ AnyLater w w' := by
  have HN := Lib.hid (fun (w1 : World) (u : Value) (hu : OQ 33 w1 0 u [(1, 9), (1, 9)]) => hgnew_yes u [(1, 9), (1, 9)] 0 w1 hu (by decide) (by decide))
  have HL : Hid (∀ (w1 : World) (g : Nat), w1.heap[g]? = some (.cells #[.int .i64 1, .int .i64 9, .int .i64 1, .int .i64 9] 33) → OQ 33 w1 0 (.slice (some ⟨g, 0, none⟩) 2 2) [(1, 9), (1, 9)]) := Lib.hid (fun w1 g h => OQ.lit [(1, 9), (1, 9)] (by decide) h rfl)
  have HH := Lib.hid (fun (C : Nat) (w1 : World) (hg : Nat) (K : List Nat) (h : HAt C w1 hg K [(1, 9), (1, 9)] [false, false]) => hghide_any hg K [(1, 9), (1, 9)] [false, false] 0 true w1 h)
  have HLi := Lib.hid (fun (C : Nat) (w1 : World) (hg : Nat) (K : List Nat) (h : HAt C w1 hg K [(1, 9), (1, 9)] [true, false]) => hgline_any (.pointer (some ⟨hg, 0, none⟩)) [(1, 9), (1, 9)] [true, false] 5 w1 (by decide) 1 0 (by decide) h.v)
  have HT := Lib.hid (fun (C : Nat) (w1 : World) (hg : Nat) (K : List Nat) (h : HAt C w1 hg K [(1, 9), (1, 9)] [true, false]) => hgtop_any (.pointer (some ⟨hg, 0, none⟩)) [(1, 9), (1, 9)] [true, false] 1 w1 0 (by decide) h.v)
  have HTo := Lib.hid (fun (C : Nat) (w1 : World) (hg : Nat) (K : List Nat) (h : HAt C w1 hg K [(1, 9), (1, 9)] [true, false]) => hgtotal_any (.pointer (some ⟨hg, 0, none⟩)) [(1, 9), (1, 9)] [true, false] w1 1 9 (by decide) (by decide) h.v)
  have hf1 := hfield1
  go_enter Try.func10, Try.ntmps10
  go_wp2_with fail
  first | refine settle_wp (fun wS => AnyLater w wS ∧ wS.heap[w.heap.size]? = some (.cells #[.int .i64 1, .int .i64 9, .int .i64 1, .int .i64 9] 33)) ?_ ?_ | refine settle_calls (fun wS => AnyLater w wS ∧ wS.heap[w.heap.size]? = some (.cells #[.int .i64 1, .int .i64 9, .int .i64 1, .int .i64 9] 33)) ?_ ?_
  · refine ⟨?_, ?_⟩
    · repeat' (first | with_reducible assumption | with_reducible exact AnyLater.refl _ | with_reducible apply AnyLater.setCell | with_reducible apply AnyLater.later | with_reducible apply AnyLater.drewN | with_reducible apply AnyLater.drew | with_reducible apply AnyLater.alloc | ((try simp only [World.size_alloc, World.size_setCell, World.size_drew]); (try dsimp only); omega))
    · ((repeat (first | with_reducible assumption | ((with_reducible apply heap_new); (try simp only [World.size_alloc, World.size_setCell, World.size_drew, World.heap_drewN]); done) | ((with_reducible apply heap_new); (try simp only [World.size_alloc, World.size_setCell, World.size_drew, World.heap_drewN]); omega) | (with_reducible refine heap_old (by (try simp only [World.size_alloc, World.size_setCell, World.size_drew, World.heap_drewN]); omega) ?_) | (with_reducible refine heap_drew ?_) | (with_reducible refine heap_far (by omega) ?_) | (with_reducible apply heap_at))); all_goals rfl)
  rintro w1 ⟨b_w1, s0_w1⟩
  have a_w1 := b_w1
  have r0_w1 := own_row s0_w1
  have f0_w1 := own_free s0_w1
  have l0_w1 := own_lt s0_w1
  have z_w1 := b_w1.below.size
  refine (HN.out w1 _ (HL.out w1 _ s0_w1)).mono ?_
  rintro e w2 ⟨hg, K, rfl, b2, hq⟩
  have H2 := Lib.hid (And.intro (a_w1.trans b2) hq)
  have Z1 := Lib.hid a_w1
  clear b2 hq s0_w1 r0_w1 f0_w1 l0_w1
  go_wp2_with fail
  refine (HH.out _ w2 hg K H2.out.2).mono ?_
  rintro e w3 ⟨rfl, hq⟩
  have H3 : Hid (AnyLater w w3 ∧ ∃ K', HAt w1.heap.size w3 hg K' [(1, 9), (1, 9)] [true, false]) := Lib.hid ⟨hq.any H2.out.1 Z1.out.below.size H2.out.2.base, hq.choose, hq.choose_spec.1⟩
  obtain ⟨a3, K3, q3⟩ := H3.out
  have H4 := Lib.hid q3
  have A3 := Lib.hid a3
  clear hq q3 a3 H3
  go_wp2_with fail
  refine (HLi.out _ w3 hg K3 H4.out).mono ?_
  rintro e w4 ⟨rfl, b4⟩
  have B4 := Lib.hid b4
  clear b4
  go_wp2_with fail
  refine (HT.out _ w4 hg K3 (H4.out.later B4.out)).mono ?_
  rintro e w5 ⟨rfl, b5⟩
  have B5 := Lib.hid (B4.out.trans b5)
  clear b5
  go_wp2_with fail
  refine (HTo.out _ w5 hg K3 (H4.out.later B5.out)).mono ?_
  rintro e w6 ⟨rfl, b6⟩
  have B6 := Lib.hid (A3.out.trans (B5.out.trans b6))
  clear b6
  go_wp2_with fail
  go_ret
  exact ⟨rfl, B6.out⟩

/-! ### both, side by side -/
theorem IsCh.kind {w : World} {v : Value} {c : Cw} {l : Qs} (h : IsCh B w v c l) {b : Nat} (hb : b ∈ c.bl) : ∃ cs t, w.heap[b]? = some (.cells cs t) ∧ (t = 75 ∨ t = 84 ∨ t = 33) := by
  unfold Cw.bl at hb
  rcases List.mem_append.1 hb with hb | hb
  · obtain ⟨_, cs, e⟩ := h.rowAt (by simpa using hb)
    exact ⟨cs, _, e, .inl rfl⟩
  · cases hs : c.sq with
    | none => rw [hs] at hb; cases hb
    | some p =>
      obtain ⟨g, t⟩ := p
      obtain ⟨q, -⟩ := h.seqAt hs
      rw [hs] at hb
      obtain ⟨rv, hg, _, F, hF, _⟩ := q.obj
      rcases List.mem_cons.1 hb with rfl | hb
      · exact ⟨_, _, hg, .inr (.inl rfl)⟩
      · obtain ⟨cs, e⟩ := (hF.rows b hb).2
        exact ⟨cs, _, e, .inr (.inr rfl)⟩
theorem HAt.kind {w : World} {hg : Nat} {K : List Nat} {L : Qs} {H : List Bool} (h : HAt B w hg K L H) {b : Nat} (hb : b ∈ K) : ∃ cs t, w.heap[b]? = some (.cells cs t) ∧ (t = 75 ∨ t = 84 ∨ t = 33) := by
  obtain ⟨v1, v2, v3, c1, c2, c3, h0, h1, h2, h3, _, _, _, rfl⟩ := h.ex
  rcases mem3 hb with hb | hb | hb
  · exact h1.kind hb
  · exact h2.kind hb
  · exact h3.kind hb
/-- a block that a change of lines' heights may change: what it is -/
theorem HC.kind {w : World} {hg : Nat} {K : List Nat} {L : Qs} {H : List Bool} (h : HAt B w hg K L H) {b : Nat} (hb : HC B w hg K b) : ∃ cs t, w.heap[b]? = some (.cells cs t) ∧ (t = 70 ∨ t = 119 ∨ (b ∈ K ∧ (t = 75 ∨ t = 84 ∨ t = 33))) := by
  rcases hb with rfl | ⟨_, hb | ⟨cs, hb⟩⟩
  · obtain ⟨v1, v2, v3, c1, c2, c3, h0, _⟩ := h.ex
    exact ⟨_, _, h0, .inl rfl⟩
  · obtain ⟨cs, t, e, q⟩ := h.kind hb
    exact ⟨cs, t, e, .inr (.inr ⟨hb, q⟩)⟩
  · exact ⟨cs, _, hb, .inr (.inl rfl)⟩
/-- lines' heights stay where nothing of them has changed -/
theorem HAt.stays {S : Nat → Prop} {w w' : World} {hg : Nat} {K : List Nat} {L : Qs} {H : List Bool} (h : HAt B w hg K L H) (st : Stays S w w') (hS : ∀ b, HC B w hg K b → ¬ S b) : HAt B w' hg K L H := by
  obtain ⟨v1, v2, v3, c1, c2, c3, h0, h1, h2, h3, d1, d2, d3, e⟩ := h.ex
  have k : ∀ {v : Value} {c : Cw} {l : Qs}, IsCh B w v c l → (∀ b ∈ c.bl, b ∈ K) → ∀ b, InC w c b → ¬ S b := fun i hk b hb => hS b (.inr ⟨(hb.kinds i).1, (hb.kinds i).2.imp (hk b) id⟩)
  exact ⟨⟨v1, v2, v3, c1, c2, c3, st.own h0 (hS _ (.inl rfl)), h1.stays st (k h1 (fun b hb => by rw [e]; exact mem3_1 hb)), h2.stays st (k h2 (fun b hb => by rw [e]; exact mem3_2 hb)), h3.stays st (k h3 (fun b hb => by rw [e]; exact mem3_3 hb)), d1, d2, d3, e⟩, h.base, h.len⟩
/-- lines' heights at hg, the document's lines at xg, apart from one another -/
structure HX (B : Nat) (w : World) (hg xg : Nat) (K : List Nat) (rL rH : Option Nat) (L : Qs) (H : List Bool) (L2 : Qs) (H2 : List Bool) : Prop where
  h : HAt B w hg K L H
  x : XAt B w xg rL rH L2 H2
  ap : ∀ b, rL = some b → b ∉ K
theorem HX.later {w w' : World} {hg xg : Nat} {K : List Nat} {rL rH : Option Nat} {L L2 : Qs} {H H2 : List Bool} (q : HX B w hg xg K rL rH L H L2 H2) (a : AnyLater w w') : HX B w' hg xg K rL rH L H L2 H2 := ⟨q.h.later a, q.x.later a, q.ap⟩
theorem HX.off {w : World} {hg xg : Nat} {K : List Nat} {rL rH : Option Nat} {L L2 : Qs} {H H2 : List Bool} (q : HX B w hg xg K rL rH L H L2 H2) {b : Nat} (h1 : HC B w hg K b) (h2 : XC xg rL rH b) : False := by
  obtain ⟨cs, t, e, k⟩ := HC.kind q.h h1
  rcases (q.x.kinds h2).2 with ⟨_, ds, e2⟩ | ⟨er, ds, e2⟩ | ⟨_, ds, e2⟩
  · rw [e] at e2
    rcases k with rfl | rfl | ⟨_, rfl | rfl | rfl⟩ <;> cases e2
  · rw [e] at e2
    rcases k with rfl | rfl | ⟨hk, rfl | rfl | rfl⟩
    · cases e2
    · cases e2
    · cases e2
    · cases e2
    · exact q.ap b er hk
  · rw [e] at e2
    rcases k with rfl | rfl | ⟨_, rfl | rfl | rfl⟩ <;> cases e2
/-- what both leave of what is not theirs -/
def OffB (B : Nat) (w w' : World) : Prop := (∀ W, W.heap.size ≤ B → AnyLater W w → AnyLater W w') ∧ ∀ (b : Nat) (cs : Array Value), w.heap[b]? = some (.cells cs 35) → w'.heap[b]? = some (.cells cs 35)
theorem OffB.of {w w' : World} (a : AnyLater w w') : OffB B w w' := ⟨fun _ _ h => h.trans a, fun _ _ h => any_own a h⟩
theorem OffB.trans {w w1 w2 : World} (h : OffB B w w1) (k : OffB B w1 w2) : OffB B w w2 := ⟨fun W h1 h2 => k.1 W h1 (h.1 W h1 h2), fun b cs e => k.2 b cs (h.2 b cs e)⟩
theorem HX.hdone {w w' : World} {hg xg : Nat} {K : List Nat} {rL rH : Option Nat} {L L2 L' : Qs} {H H2 H' : List Bool} (q : HX B w hg xg K rL rH L H L2 H2) (d : HDone B w hg K L' H' w') : (∃ K', HX B w' hg xg K' rL rH L' H' L2 H2) ∧ OffB B w w' := by
  obtain ⟨K', k1, k2, k3⟩ := d
  refine ⟨⟨K', k1, q.x.stays k3 (fun b hb hc => q.off hc hb), fun b hb hk => ?_⟩, fun W h1 h2 => k3.any h2 (fun b hb => ?_), fun b cs e => k3.own e (fun hc => ?_)⟩
  · rcases k2 b hk with r | r
    · exact q.ap b hb r
    · have := q.x.lt (.inr (.inl hb)); omega
  · have hb0 := q.h.base
    rcases hb with rfl | ⟨r, _⟩ <;> omega
  · obtain ⟨ds, t, e2, r⟩ := HC.kind q.h hc
    rw [e] at e2
    rcases r with rfl | rfl | ⟨_, rfl | rfl | rfl⟩ <;> cases e2
theorem HX.xdone {w w' : World} {hg xg : Nat} {K : List Nat} {rL rH : Option Nat} {L L2 L' : Qs} {H H2 H' : List Bool} (q : HX B w hg xg K rL rH L H L2 H2) (d : XDone B w xg rL rH L' H' w') : (∃ sL sH, HX B w' hg xg K sL sH L H L' H') ∧ OffB B w w' := by
  obtain ⟨sL, sH, k1, k2, k4, k3⟩ := d
  refine ⟨⟨sL, sH, q.h.stays k3 (fun b hb hc => q.off hb hc), k1, fun b hb hk => ?_⟩, fun W h1 h2 => k3.any h2 (fun b hb => Nat.le_trans h1 (q.x.kinds hb).1), fun b cs e => k3.own e (fun hc => ?_)⟩
  · rcases k2 b hb with r | r
    · exact q.ap b r hk
    · have := (q.h.in_ b hk).2; omega
  · rcases (q.x.kinds hc).2 with ⟨_, ds, e2⟩ | ⟨_, ds, e2⟩ | ⟨_, ds, e2⟩ <;> (rw [e] at e2; cases e2)
end Go.Proofs.Ytjoadlfkdkeomaa
