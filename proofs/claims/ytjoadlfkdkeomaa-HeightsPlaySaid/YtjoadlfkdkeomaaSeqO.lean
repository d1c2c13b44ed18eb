/- seq: a height set, heights put in and taken away, a Seq made: by contract. Up to 45000 heights. -/
import Derived.Test.YtjoadlfkdkeomaaSeqN
import Derived.Test.YtjoadlfkdkeomaaFree
import Derived.Test.YtjoadlfkdkeomaaClc
import Derived.Test.YtjoadlfkdkeomaaStor
import Derived.LoopN
import Derived.Deep.LoopGhost
import Derived.BigRegion
import Derived.RegionTactic
import Derived.Shelf.Abstract
import Derived.ChangeKeysEq
import Derived.Deep.DeepCutAuto
import Derived.Deep.CutBlock
namespace Go.Proofs.Ytjoadlfkdkeomaa
set_option linter.unusedSimpArgs false
set_option linter.unusedVariables false
set_option linter.unusedSectionVars false
open Go.RowKit
variable {B : Nat}

/-! ### a Seq that may be changed -/
/-- a Seq at g, its tree t; all its memory lies from B on -/
structure QAt (B : Nat) (w : World) (g : Nat) (t : Ht) : Prop where
  obj : ∃ rv, w.heap[g]? = some (.cells #[rv] 84) ∧ isH B t rv w
  ok : t.Ok
  base : B ≤ g
theorem QAt.q {w : World} {g : Nat} {t : Ht} (h : QAt B w g t) : IsQ w g t := by
  obtain ⟨rv, hg, _, F, hF, _⟩ := h.obj
  exact ⟨rv, F, hg, hF⟩
theorem QAt.later {w w' : World} {g : Nat} {t : Ht} (h : QAt B w g t) (a : AnyLater w w') : QAt B w' g t := by
  obtain ⟨rv, hg, ht⟩ := h.obj
  exact ⟨⟨rv, any_own a hg, isH_stays a ht⟩, h.ok, h.base⟩
theorem QAt.le {w : World} {g : Nat} {t : Ht} (h : QAt B w g t) : B ≤ w.heap.size := by
  obtain ⟨_, _, ht⟩ := h.obj
  exact ht.1
theorem QAt.fit {w : World} {g : Nat} {t : Ht} (h : QAt B w g t) : t.Fit := h.ok.fit
/-- what a change of a Seq may change -/
def Chg (B : Nat) (w : World) (g : Nat) (t : Ht) (b : Nat) : Prop := b = g ∨ (B ≤ b ∧ ((∃ cs, w.heap[b]? = some (.cells cs 119)) ∨ b ∈ t.bks))
/-- a Seq that was changed: its heights are l now -/
def QDone (B : Nat) (w : World) (g : Nat) (t : Ht) (l : Qs) (w' : World) : Prop := (∃ t', QAt B w' g t' ∧ t'.hs = l ∧ ∀ b ∈ t'.bks, b ∈ t.bks ∨ w.heap.size ≤ b) ∧ Stays (Chg B w g t) w w'
theorem QDone.same {w w' : World} {g : Nat} {t : Ht} (h : QAt B w g t) (a : AnyLater w w') : QDone B w g t t.hs w' := ⟨⟨t, h.later a, rfl, fun _ hb => .inl hb⟩, .of a⟩
theorem QDone.any {W w w' : World} {g : Nat} {t : Ht} {l : Qs} (h : QDone B w g t l w') (hW : AnyLater W w) (hB : W.heap.size ≤ B) (hg : B ≤ g) : AnyLater W w' := h.2.any hW (fun k hk => by
  rcases hk with rfl | ⟨hk, _⟩
  · omega
  · omega)
/-- what a Set tells, and what it leaves -/
def setC (l : Qs) (i : Int) (x : Int × Int) : Int := if ¬ (0 ≤ i ∧ i < l.length) then 1 else if tlBad x = true then 5 else 0
def setO (l : Qs) (i : Int) (x : Int × Int) : Qs := if setC l i x = 0 then l.set i.toNat x else l
theorem tlBad_not {x : Int × Int} (h : tlBad x = false) : TlOk x := by
  unfold tlBad at h
  have := of_decide_eq_false h
  unfold TlOk
  omega
theorem tlBad_iff (x : Int × Int) : tlBad x = false ↔ TlOk x := by
  refine ⟨tlBad_not, fun h => ?_⟩
  unfold tlBad
  unfold TlOk at h
  exact decide_eq_false (by omega)
theorem Ht.Ok.setT {t : Ht} (h : t.Ok) (i : Nat) {x : Int × Int} (hx : TlOk x) : (t.setT i x).Ok := by
  obtain ⟨e1, e2, e3, e4⟩ := Ht.setT_same t i x
  exact ⟨e4 h.fine, by rw [Ht.setT_hs]; exact h.tls.set hx, by rw [Ht.setT_hs, List.length_set]; exact h.most, by rw [e1]; exact h.rows⟩
set_option maxRecDepth 100000 in
theorem sqset_range (v : Value) (t : Ht) (i x y : Int) (w : World) (h : IsQN w v t) (hf : t.Fit) (hi : ¬ (0 ≤ i ∧ i < t.hs.length)) : Calls Try.prog 49 #[v, .int .i64 i, .agg #[.int .i64 x, .int .i64 y]] w fun e w' => e = .returned (.int .i64 1) ∧ AnyLater w w' := by
  have HH := Lib.hid (fun (w' : World) (a : AnyLater w w') => sqhas_any v t i false w' (decide_eq_false hi) (h.later a) hf)
  clear h hf hi
  go_enter Try.func49, Try.ntmps49
  go_wp2_with fail
  first | refine settle_wp (fun wS => AnyLater w wS ∧ wS.heap[w.heap.size]? = some (.cells #[.int .i64 x, .int .i64 y] 33)) ?_ ?_ | refine settle_calls (fun wS => AnyLater w wS ∧ wS.heap[w.heap.size]? = some (.cells #[.int .i64 x, .int .i64 y] 33)) ?_ ?_
  · refine ⟨?_, ?_⟩
    · repeat' (first | with_reducible assumption | with_reducible exact AnyLater.refl _ | with_reducible apply AnyLater.setCell | with_reducible apply AnyLater.later | with_reducible apply AnyLater.drewN | with_reducible apply AnyLater.drew | with_reducible apply AnyLater.alloc | ((try simp only [World.size_alloc, World.size_setCell, World.size_drew]); (try dsimp only); omega))
    · ((repeat (first | with_reducible assumption | ((with_reducible apply heap_new); (try simp only [World.size_alloc, World.size_setCell, World.size_drew, World.heap_drewN]); done) | ((with_reducible apply heap_new); (try simp only [World.size_alloc, World.size_setCell, World.size_drew, World.heap_drewN]); omega) | (with_reducible refine heap_old (by (try simp only [World.size_alloc, World.size_setCell, World.size_drew, World.heap_drewN]); omega) ?_) | (with_reducible refine heap_drew ?_) | (with_reducible refine heap_far (by omega) ?_) | (with_reducible apply heap_at))); all_goals rfl)
  rintro w1 ⟨b_w1, s0_w1⟩
  have a_w1 := b_w1
  have r0_w1 := own_row s0_w1
  have f0_w1 := own_free s0_w1
  have l0_w1 := own_lt s0_w1
  have z_w1 := b_w1.below.size
  refine (HH.out _ a_w1).mono ?_
  rintro e w2 ⟨rfl, b_w2⟩
  have z_w2 := b_w2.below.size
  have a_w2 := a_w1.trans b_w2
  have s0_w2 := any_own b_w2 s0_w1
  have r0_w2 := own_row s0_w2
  have f0_w2 := own_free s0_w2
  have l0_w2 := own_lt s0_w2
  (try clear r0_w1); (try clear f0_w1)
  go_wp2_with fail
  go_ret
  exact ⟨rfl, by repeat' (first | with_reducible assumption | with_reducible exact AnyLater.refl _ | with_reducible apply AnyLater.setCell | with_reducible apply AnyLater.later | with_reducible apply AnyLater.drewN | with_reducible apply AnyLater.drew | with_reducible apply AnyLater.alloc | ((try simp only [World.size_alloc, World.size_setCell, World.size_drew]); (try dsimp only); omega))⟩
set_option maxRecDepth 100000 in
theorem sqset_kind (v : Value) (t : Ht) (i x y : Int) (w : World) (h : IsQN w v t) (hf : t.Fit) (hi : 0 ≤ i ∧ i < t.hs.length) (hx : tlBad (x, y) = true) : Calls Try.prog 49 #[v, .int .i64 i, .agg #[.int .i64 x, .int .i64 y]] w fun e w' => e = .returned (.int .i64 5) ∧ AnyLater w w' := by
  have HH := Lib.hid (fun (w' : World) (a : AnyLater w w') => sqhas_any v t i true w' (decide_eq_true hi) (h.later a) hf)
  have HM := Lib.hid (fun (w' : World) => mayNot_any x y true w' hx)
  clear h hf hi hx
  go_enter Try.func49, Try.ntmps49
  go_wp2_with fail
  first | refine settle_wp (fun wS => AnyLater w wS ∧ wS.heap[w.heap.size]? = some (.cells #[.int .i64 x, .int .i64 y] 33)) ?_ ?_ | refine settle_calls (fun wS => AnyLater w wS ∧ wS.heap[w.heap.size]? = some (.cells #[.int .i64 x, .int .i64 y] 33)) ?_ ?_
  · refine ⟨?_, ?_⟩
    · repeat' (first | with_reducible assumption | with_reducible exact AnyLater.refl _ | with_reducible apply AnyLater.setCell | with_reducible apply AnyLater.later | with_reducible apply AnyLater.drewN | with_reducible apply AnyLater.drew | with_reducible apply AnyLater.alloc | ((try simp only [World.size_alloc, World.size_setCell, World.size_drew]); (try dsimp only); omega))
    · ((repeat (first | with_reducible assumption | ((with_reducible apply heap_new); (try simp only [World.size_alloc, World.size_setCell, World.size_drew, World.heap_drewN]); done) | ((with_reducible apply heap_new); (try simp only [World.size_alloc, World.size_setCell, World.size_drew, World.heap_drewN]); omega) | (with_reducible refine heap_old (by (try simp only [World.size_alloc, World.size_setCell, World.size_drew, World.heap_drewN]); omega) ?_) | (with_reducible refine heap_drew ?_) | (with_reducible refine heap_far (by omega) ?_) | (with_reducible apply heap_at))); all_goals rfl)
  rintro w1 ⟨b_w1, s0_w1⟩
  have a_w1 := b_w1
  have r0_w1 := own_row s0_w1
  have f0_w1 := own_free s0_w1
  have l0_w1 := own_lt s0_w1
  have z_w1 := b_w1.below.size
  refine (HH.out _ a_w1).mono ?_
  rintro e w2 ⟨rfl, b_w2⟩
  have z_w2 := b_w2.below.size
  have a_w2 := a_w1.trans b_w2
  have s0_w2 := any_own b_w2 s0_w1
  have r0_w2 := own_row s0_w2
  have f0_w2 := own_free s0_w2
  have l0_w2 := own_lt s0_w2
  (try clear r0_w1); (try clear f0_w1)
  go_wp2_with fail
  refine (HM.out _).mono ?_
  rintro e w3 ⟨rfl, b_w3⟩
  have z_w3 := b_w3.below.size
  have a_w3 := a_w2.trans b_w3
  have s0_w3 := any_own b_w3 s0_w2
  have r0_w3 := own_row s0_w3
  have f0_w3 := own_free s0_w3
  have l0_w3 := own_lt s0_w3
  (try clear r0_w2); (try clear f0_w2)
  go_wp2_with fail
  go_ret
  exact ⟨rfl, by repeat' (first | with_reducible assumption | with_reducible exact AnyLater.refl _ | with_reducible apply AnyLater.setCell | with_reducible apply AnyLater.later | with_reducible apply AnyLater.drewN | with_reducible apply AnyLater.drew | with_reducible apply AnyLater.alloc | ((try simp only [World.size_alloc, World.size_setCell, World.size_drew]); (try dsimp only); omega))⟩
set_option maxRecDepth 100000 in
set_option maxHeartbeats 1600000 in
theorem sqset_yes (g : Nat) (t : Ht) (i : Nat) (x y : Int) (w : World) (h : QAt B w g t) (hi : i < t.hs.length) (hx : tlBad (x, y) = false) : Calls Try.prog 49 #[.pointer (some ⟨g, 0, none⟩), .int .i64 (i : Int), .agg #[.int .i64 x, .int .i64 y]] w fun e w' => e = .returned (.int .i64 0) ∧ QDone B w g t (t.hs.set i (x, y)) w' := by
  have HH := Lib.hid (fun (w' : World) (a : AnyLater w w') => sqhas_any (.pointer (some ⟨g, 0, none⟩)) t (i : Int) true w' (decide_eq_true (by omega)) (h.q.nil_or.later a) h.fit)
  have HM := Lib.hid (fun (w' : World) => mayNot_any x y false w' hx)
  obtain ⟨rv, hg, hB, F, hF, hFb⟩ := h.obj
  have hne : g ∉ F := fun hgF => by
    rcases hF.kinds g hgF with ⟨cs, hc⟩ | ⟨_, cs, hc⟩
    · rw [hg] at hc; cases hc
    · rw [hg] at hc; cases hc
  have HS := Lib.hid (fun (w' : World) (a : AnyLater w w') => hset_any t h.fit h.ok.fine h.ok.rows rv F i x y w' (hF.later a) hi (tlBad_not hx))
  have HE : Hid (∀ w1 w', AnyLater w w1 → Stays (· ∈ F) w1 w' → IsH w' (t.setT i (x, y)) rv F → QDone B w g t (t.hs.set i (x, y)) w') := Lib.hid (fun w1 w' a s ht => by
    have st : Stays (· ∈ F) w w' := (Stays.of a).trans s
    refine ⟨⟨_, ⟨⟨rv, st.own hg hne, Nat.le_trans hB st.size, F, ht, hFb⟩, h.ok.setT i (tlBad_not hx), h.base⟩, Ht.setT_hs t i (x, y), fun b hb => .inl (by rw [(Ht.setT_same t i (x, y)).1] at hb; exact hb)⟩, st.wide (fun b _ hb => .inr ⟨hFb b hb, ?_⟩)⟩
    rcases hF.kinds b hb with q | ⟨q, _⟩
    · exact .inl q
    · exact .inr q)
  obtain ⟨q, rfl⟩ := hF.ptr
  have s0_w := hg
  have r0_w := own_row hg
  have f0_w := own_free hg
  have l0_w := own_lt hg
  clear h hg hF hFb hne hx hi hB
  generalize t.hs.set i (x, y) = l2 at *
  go_enter Try.func49, Try.ntmps49
  go_wp2_with fail
  first | refine settle_wp (fun wS => AnyLater w wS ∧ wS.heap[w.heap.size]? = some (.cells #[.int .i64 x, .int .i64 y] 33)) ?_ ?_ | refine settle_calls (fun wS => AnyLater w wS ∧ wS.heap[w.heap.size]? = some (.cells #[.int .i64 x, .int .i64 y] 33)) ?_ ?_
  · refine ⟨?_, ?_⟩
    · repeat' (first | with_reducible assumption | with_reducible exact AnyLater.refl _ | with_reducible apply AnyLater.setCell | with_reducible apply AnyLater.later | with_reducible apply AnyLater.drewN | with_reducible apply AnyLater.drew | with_reducible apply AnyLater.alloc | ((try simp only [World.size_alloc, World.size_setCell, World.size_drew]); (try dsimp only); omega))
    · ((repeat (first | with_reducible assumption | ((with_reducible apply heap_new); (try simp only [World.size_alloc, World.size_setCell, World.size_drew, World.heap_drewN]); done) | ((with_reducible apply heap_new); (try simp only [World.size_alloc, World.size_setCell, World.size_drew, World.heap_drewN]); omega) | (with_reducible refine heap_old (by (try simp only [World.size_alloc, World.size_setCell, World.size_drew, World.heap_drewN]); omega) ?_) | (with_reducible refine heap_drew ?_) | (with_reducible refine heap_far (by omega) ?_) | (with_reducible apply heap_at))); all_goals rfl)
  rintro w1 ⟨b_w1, s1_w1⟩
  have a_w1 := b_w1
  have s0_w1 := any_own b_w1 s0_w
  have r0_w1 := own_row s0_w1
  have f0_w1 := own_free s0_w1
  have l0_w1 := own_lt s0_w1
  (try clear r0_w); (try clear f0_w)
  have r1_w1 := own_row s1_w1
  have f1_w1 := own_free s1_w1
  have l1_w1 := own_lt s1_w1
  have z_w1 := b_w1.below.size
  refine (HH.out _ a_w1).mono ?_
  rintro e w2 ⟨rfl, b_w2⟩
  have z_w2 := b_w2.below.size
  have a_w2 := a_w1.trans b_w2
  have s0_w2 := any_own b_w2 s0_w1
  have s1_w2 := any_own b_w2 s1_w1
  have r0_w2 := own_row s0_w2
  have f0_w2 := own_free s0_w2
  have l0_w2 := own_lt s0_w2
  have r1_w2 := own_row s1_w2
  have f1_w2 := own_free s1_w2
  have l1_w2 := own_lt s1_w2
  (try clear r0_w1); (try clear f0_w1)
  (try clear r1_w1); (try clear f1_w1)
  go_wp2_with fail
  refine (HM.out _).mono ?_
  rintro e w3 ⟨rfl, b_w3⟩
  have z_w3 := b_w3.below.size
  have a_w3 := a_w2.trans b_w3
  have s0_w3 := any_own b_w3 s0_w2
  have s1_w3 := any_own b_w3 s1_w2
  have r0_w3 := own_row s0_w3
  have f0_w3 := own_free s0_w3
  have l0_w3 := own_lt s0_w3
  have r1_w3 := own_row s1_w3
  have f1_w3 := own_free s1_w3
  have l1_w3 := own_lt s1_w3
  (try clear r0_w2); (try clear f0_w2)
  (try clear r1_w2); (try clear f1_w2)
  go_wp2_with fail
  apply wp_region_mem (6) [] (by kernel_rfl) (by kernel_rfl) (by simp)
  case hstab =>
    intro e he v x y hxy hv
    simp only [List.mem_cons, List.not_mem_nil, or_false] at he
  case hlex =>
    intro U
    have q0 := fun (v : Later (later U)) => own_row (any_own ⟨v, rfl⟩ (any_own ⟨U, rfl⟩ s0_w3))
    have q1 := fun (v : Later (later U)) => own_row (any_own ⟨v, rfl⟩ (any_own ⟨U, rfl⟩ s1_w3))
    simp only [absFrom, absOp, idx, List.map_cons, List.map_nil, List.contains_cons, List.contains_nil, Nat.reduceBEq, Bool.or_false, Bool.false_or, Bool.true_or, Bool.or_true, Bool.false_eq_true, Nat.reduceLeDiff, Nat.reduceAdd, if_false, if_true]
    repeat (go_big_quiet_step (fail))
    exact wpQuiet_nil rfl
  case hown =>
    intro e he o ho
    simp only [List.mem_cons, List.not_mem_nil, or_false] at he
  case htail =>
    intro g u hst hne
    have b_w4 : AnyLater w3 (later u) := ⟨u, rfl⟩
    generalize later u = w4 at *
    clear u
    clear hst hne
    simp only [fillAll, Act.put, List.setIfInBounds_toArray, List.set_cons_zero, List.set_cons_succ, List.drop_succ_cons, List.drop_zero]
    have z_w4 := b_w4.below.size
    have a_w4 := a_w3.trans b_w4
    have s0_w4 := any_own b_w4 s0_w3
    have s1_w4 := any_own b_w4 s1_w3
    have r0_w4 := own_row s0_w4
    have f0_w4 := own_free s0_w4
    have l0_w4 := own_lt s0_w4
    have r1_w4 := own_row s1_w4
    have f1_w4 := own_free s1_w4
    have l1_w4 := own_lt s1_w4
    (try clear r0_w3); (try clear f0_w3)
    (try clear r1_w3); (try clear f1_w3)
    go_wp2_with fail
    refine (HS.out w4 a_w4).mono ?_
    rintro e w5 ⟨rfl, st, ht⟩
    have HZ := Lib.hid (HE.out w4 w5 a_w4 st ht)
    clear st ht s0_w s0_w1 s1_w1 s0_w2 s1_w2 s0_w3 s1_w3 s0_w4 s1_w4 r0_w4 r1_w4 f0_w4 f1_w4 l0_w4 l1_w4
    go_wp2_with fail
    go_ret
    exact ⟨rfl, HZ.out⟩
/-- Set, whatever is asked -/
theorem sqset_any (g : Nat) (t : Ht) (i x y : Int) (w : World) (h : QAt B w g t) : Calls Try.prog 49 #[.pointer (some ⟨g, 0, none⟩), .int .i64 i, .agg #[.int .i64 x, .int .i64 y]] w fun e w' => e = .returned (.int .i64 (setC t.hs i (x, y))) ∧ QDone B w g t (setO t.hs i (x, y)) w' := by
  by_cases h1 : 0 ≤ i ∧ i < t.hs.length
  · cases h2 : tlBad (x, y)
    · have e1 : setC t.hs i (x, y) = 0 := by unfold setC; rw [if_neg (not_not_intro h1), h2]; rfl
      have e2 : setO t.hs i (x, y) = t.hs.set i.toNat (x, y) := by unfold setO; rw [if_pos e1]
      rw [e1, e2]
      obtain ⟨n, rfl⟩ := Int.eq_ofNat_of_zero_le h1.1
      exact sqset_yes g t n x y w h (by omega) h2
    · have e1 : setC t.hs i (x, y) = 5 := by unfold setC; rw [if_neg (not_not_intro h1), h2]; rfl
      have e2 : setO t.hs i (x, y) = t.hs := by unfold setO; rw [if_neg (by rw [e1]; decide)]
      rw [e1, e2]
      refine (sqset_kind _ t i x y w h.q.nil_or h.fit h1 h2).mono ?_
      rintro e w' ⟨rfl, a⟩
      exact ⟨rfl, QDone.same h a⟩
  · have e1 : setC t.hs i (x, y) = 1 := by unfold setC; rw [if_pos h1]
    have e2 : setO t.hs i (x, y) = t.hs := by unfold setO; rw [if_neg (by rw [e1]; decide)]
    rw [e1, e2]
    refine (sqset_range _ t i x y w h.q.nil_or h.fit h1).mono ?_
    rintro e w' ⟨rfl, a⟩
    exact ⟨rfl, QDone.same h a⟩

/-! ### heights put in, and taken away -/
theorem QDone.spliced {w w1 w' : World} {g : Nat} {t T : Ht} {l : Qs} {u : Value} (h : QAt B w g t) (a : AnyLater w w1) (hT : isH B T u w1) (e : T.hs = l) (fn : T.Fine) (nd : T.bks.Nodup) (bk : ∀ b ∈ T.bks, b ∈ t.bks ∨ w.heap.size ≤ b) (tl : Tls l) (lm : l.length ≤ 45000) (hs : w' = w1.setCell ⟨g, 0, none⟩ u) : QDone B w g t l w' := by
  obtain ⟨rv, hg, hB, F, hF, hFb⟩ := h.obj
  have hg1 := any_own a hg
  subst hs
  obtain ⟨hB1, G, hG, hGb⟩ := hT
  have hne : g ∉ G := fun hgF => by
    rcases hG.kinds g hgF with ⟨cs, hc⟩ | ⟨_, cs, hc⟩
    · rw [hg1] at hc; cases hc
    · rw [hg1] at hc; cases hc
  refine ⟨⟨T, ⟨⟨u, heap_at hg1 rfl, by rw [World.size_setCell]; exact hB1, G, hG.frame (fun b hb => ?_), hGb⟩, ⟨fn, by rw [e]; exact tl, by rw [e]; exact lm, nd⟩, h.base⟩, e, bk⟩, (Stays.of a).setCell (.inl rfl) u⟩
  have hb1 := hG.lt b hb
  have : b ≠ g := fun q => hne (q ▸ hb)
  cases hc : w1.heap[b]? with
  | none => rw [Array.getElem?_eq_none_iff] at hc; omega
  | some o => exact heap_far this hc
def qinsC (n : Nat) (i : Int) (m : Qs) : Int := if i < 0 ∨ (n : Int) < i then 1 else if m.any tlBad = true then 5 else 0
def qinsO (l : Qs) (i : Int) (m : Qs) : Qs := if qinsC l.length i m = 0 then l.take i.toNat ++ m ++ l.drop i.toNat else l
theorem Tls.of_any {m : Qs} (h : m.any tlBad = false) : Tls m := fun x hx => by
  have := List.any_eq_false.1 h x hx
  exact tlBad_not (by simpa using this)
theorem tests_mayNot : TestsT 60 #[] tlBad := fun b1 b2 w' => mayNot_any b1 b2 _ w' rfl
set_option maxRecDepth 100000 in
set_option maxHeartbeats 1600000 in
theorem sqins_range (v u : Value) (t : Ht) (i : Int) (w : World) (h : IsQN w v t) (hf : t.Fit) (hi : v = .pointer none ∨ i < 0 ∨ (t.hs.length : Int) < i) : Calls Try.prog 50 #[v, .int .i64 i, u] w fun e w' => e = .returned (.int .i64 1) ∧ AnyLater w w' := by
  rcases h with ⟨rfl, rfl⟩ | ⟨g, rfl, h⟩
  · clear hi hf
    go_enter Try.func50, Try.ntmps50
    go_wp2_with fail
    go_ret
    exact ⟨rfl, AnyLater.refl _⟩
  · have hi : i < 0 ∨ (t.hs.length : Int) < i := hi.resolve_left (by simp)
    have HL := Lib.hid (fun (w' : World) (a : AnyLater w w') => sqlen_any (.pointer (some ⟨g, 0, none⟩)) t w' (h.nil_or.later a) hf)
    clear h hf
    by_cases h0 : i < 0
    · clear hi
      go_enter Try.func50, Try.ntmps50
      go_wp2_with fail
      go_ret
      exact ⟨rfl, AnyLater.refl _⟩
    · have h1 : (t.hs.length : Int) < i := hi.resolve_left h0
      clear hi
      generalize t.hs.length = n at *
      have d0 : decide (i < 0) = false := decide_eq_false h0
      go_enter Try.func50, Try.ntmps50
      go_wp2_with fail
      refine (HL.out _ (AnyLater.refl w)).mono ?_
      rintro e w1 ⟨rfl, b1⟩
      have HB := Lib.hid b1
      clear b1
      go_wp2_with fail
      go_ret
      exact ⟨rfl, HB.out⟩
set_option maxRecDepth 100000 in
set_option maxHeartbeats 1600000 in
theorem sqins_kind (g : Nat) (u : Value) (t : Ht) (i : Nat) (m : Qs) (w : World) (h : IsQ w g t) (hf : t.Fit) (hi : i ≤ t.hs.length) (hu : QR w u m) (hm : m.length ≤ 90000) (hk : m.any tlBad = true) : Calls Try.prog 50 #[.pointer (some ⟨g, 0, none⟩), .int .i64 (i : Int), u] w fun e w' => e = .returned (.int .i64 5) ∧ AnyLater w w' := by
  have HL := Lib.hid (fun (w' : World) (a : AnyLater w w') => sqlen_any (.pointer (some ⟨g, 0, none⟩)) t w' (h.nil_or.later a) hf)
  have HC := Lib.hid (fun (w' : World) (a : AnyLater w w') => tlcontains_any u 60 #[] tlBad m true w' hk (hu.later a) (by omega) (enters_of Try.func60 (by kernel_rfl) rfl) tests_mayNot)
  obtain ⟨A, cap, rfl, -⟩ := hu.form
  have d0 : decide ((i : Int) < 0) = false := decide_eq_false (by omega)
  have d1 : decide (t.hs.length < i) = false := decide_eq_false (by omega)
  clear h hf hi hu hm hk
  generalize t.hs.length = n at *
  go_enter Try.func50, Try.ntmps50
  go_wp2_with fail
  refine (HL.out _ (AnyLater.refl w)).mono ?_
  rintro e w1 ⟨rfl, b_w1⟩
  have z_w1 := b_w1.below.size
  have a_w1 := b_w1
  go_wp2_with fail
  refine (HC.out _ a_w1).mono ?_
  rintro e w2 ⟨rfl, b_w2⟩
  have z_w2 := b_w2.below.size
  have a_w2 := a_w1.trans b_w2
  go_wp2_with fail
  go_ret
  exact ⟨rfl, a_w2⟩
set_option maxRecDepth 100000 in
set_option maxHeartbeats 1600000 in
theorem sqins_yes (g : Nat) (u : Value) (t : Ht) (i : Nat) (m : Qs) (w : World) (h : QAt B w g t) (hi : i ≤ t.hs.length) (hu : QR w u m) (hm : t.hs.length + m.length ≤ 45000) (hk : m.any tlBad = false) : Calls Try.prog 50 #[.pointer (some ⟨g, 0, none⟩), .int .i64 (i : Int), u] w fun e w' => e = .returned (.int .i64 0) ∧ QDone B w g t (t.hs.take i ++ m ++ t.hs.drop i) w' := by
  have hf := h.fit
  have HL := Lib.hid (fun (w' : World) (a : AnyLater w w') => sqlen_any (.pointer (some ⟨g, 0, none⟩)) t w' (h.q.nil_or.later a) hf)
  have HC := Lib.hid (fun (w' : World) (a : AnyLater w w') => tlcontains_any u 60 #[] tlBad m false w' hk (hu.later a) (by omega) (enters_of Try.func60 (by kernel_rfl) rfl) tests_mayNot)
  have HE : Hid (∀ w0 w1 u' w', AnyLater w w0 → AnyLater w0 w1 → isSpliced B w0 t (t.hs.take i ++ m ++ t.hs.drop i) u' w1 → w' = w1.setCell ⟨g, 0, none⟩ u' → QDone B w g t (t.hs.take i ++ m ++ t.hs.drop i) w') := Lib.hid (fun w0 w1 u' w' a0 a1 ⟨T, k1, k2, k3, k4, k5⟩ e => by
    refine QDone.spliced h (a0.trans a1) k1 k2 k3 k4 (fun b hb => (k5 b hb).imp id (fun q => Nat.le_trans a0.below.size q)) (((hf.tls.take i).append (Tls.of_any hk)).append (hf.tls.drop i)) ?_ e
    rw [List.length_append, List.length_append, List.length_take, List.length_drop]; omega)
  obtain ⟨rv, hg, ht⟩ := h.obj
  have HS := Lib.hid (fun (w' : World) (a : AnyLater w w') => hsplice_any t i i rv u m w' (isH_stays a ht) h.ok (Nat.le_refl _) hi (hu.later a) (by omega) (Tls.of_any hk))
  obtain ⟨q, rfl⟩ := ht.ptr
  obtain ⟨A, cap, rfl, -⟩ := hu.form
  have d0 : decide ((i : Int) < 0) = false := decide_eq_false (by omega)
  have d1 : decide (t.hs.length < i) = false := decide_eq_false (by omega)
  have d2 : decide ((16777216 : Int) - (t.hs.length : Int) < (m.length : Int)) = false := decide_eq_false (by omega)
  have d3 : (t.hs.length : Int) ≤ 45000 := by omega
  have s0_w := hg
  have r0_w := own_row hg
  have f0_w := own_free hg
  have l0_w := own_lt hg
  clear h hf hi hu hm hk ht hg
  generalize t.hs.take i ++ m ++ t.hs.drop i = l2 at *
  generalize t.hs.length = n at *
  generalize m.length = k at *
  go_enter Try.func50, Try.ntmps50
  go_wp2_with fail
  refine (HL.out _ (AnyLater.refl w)).mono ?_
  rintro e w1 ⟨rfl, b_w1⟩
  have z_w1 := b_w1.below.size
  have a_w1 := b_w1
  have s0_w1 := any_own b_w1 s0_w
  have r0_w1 := own_row s0_w1
  have f0_w1 := own_free s0_w1
  have l0_w1 := own_lt s0_w1
  (try clear r0_w); (try clear f0_w)
  go_wp2_with fail
  refine (HC.out _ a_w1).mono ?_
  rintro e w2 ⟨rfl, b_w2⟩
  have z_w2 := b_w2.below.size
  have a_w2 := a_w1.trans b_w2
  have s0_w2 := any_own b_w2 s0_w1
  have r0_w2 := own_row s0_w2
  have f0_w2 := own_free s0_w2
  have l0_w2 := own_lt s0_w2
  (try clear r0_w1); (try clear f0_w1)
  go_wp2_with fail
  refine (HL.out _ a_w2).mono ?_
  rintro e w3 ⟨rfl, b_w3⟩
  have z_w3 := b_w3.below.size
  have a_w3 := a_w2.trans b_w3
  have s0_w3 := any_own b_w3 s0_w2
  have r0_w3 := own_row s0_w3
  have f0_w3 := own_free s0_w3
  have l0_w3 := own_lt s0_w3
  (try clear r0_w2); (try clear f0_w2)
  go_wp2_with fail
  refine (HS.out _ a_w3).mono ?_
  rintro e w4 ⟨u4, rfl, b_w4, p4⟩
  have HZ := Lib.hid (HE.out w3 w4 u4 _ a_w3 b_w4 p4 rfl)
  obtain ⟨T, hT, -⟩ := p4
  obtain ⟨q4, rfl⟩ := hT.ptr
  have z_w4 := b_w4.below.size
  have a_w4 := a_w3.trans b_w4
  have s0_w4 := any_own b_w4 s0_w3
  have r0_w4 := own_row s0_w4
  have f0_w4 := own_free s0_w4
  have l0_w4 := own_lt s0_w4
  (try clear r0_w3); (try clear f0_w3)
  clear hT
  go_wp2_with fail
  go_ret
  exact ⟨rfl, HZ.out⟩
/-- Insert, whatever is asked -/
theorem sqins_any (g : Nat) (u : Value) (t : Ht) (i : Int) (m : Qs) (w : World) (h : QAt B w g t) (hu : QR w u m) (hm : t.hs.length + m.length ≤ 45000) : Calls Try.prog 50 #[.pointer (some ⟨g, 0, none⟩), .int .i64 i, u] w fun e w' => e = .returned (.int .i64 (qinsC t.hs.length i m)) ∧ QDone B w g t (qinsO t.hs i m) w' := by
  by_cases h1 : i < 0 ∨ (t.hs.length : Int) < i
  · have e1 : qinsC t.hs.length i m = 1 := by unfold qinsC; rw [if_pos h1]
    have e2 : qinsO t.hs i m = t.hs := by unfold qinsO; rw [if_neg (by rw [e1]; decide)]
    rw [e1, e2]
    refine (sqins_range _ u t i w h.q.nil_or h.fit (.inr h1)).mono ?_
    rintro e w' ⟨rfl, a⟩
    exact ⟨rfl, QDone.same h a⟩
  · obtain ⟨n, rfl⟩ := Int.eq_ofNat_of_zero_le (show 0 ≤ i by omega)
    cases h2 : m.any tlBad
    · have e1 : qinsC t.hs.length n m = 0 := by unfold qinsC; rw [if_neg h1, h2]; rfl
      have e2 : qinsO t.hs n m = t.hs.take n ++ m ++ t.hs.drop n := by unfold qinsO; rw [if_pos e1]; rfl
      rw [e1, e2]
      exact sqins_yes g u t n m w h (by omega) hu hm h2
    · have e1 : qinsC t.hs.length n m = 5 := by unfold qinsC; rw [if_neg h1, h2]; rfl
      have e2 : qinsO t.hs n m = t.hs := by unfold qinsO; rw [if_neg (by rw [e1]; decide)]
      rw [e1, e2]
      refine (sqins_kind g u t n m w h.q h.fit (by omega) hu (by omega) h2).mono ?_
      rintro e w' ⟨rfl, a⟩
      exact ⟨rfl, QDone.same h a⟩
end Go.Proofs.Ytjoadlfkdkeomaa
