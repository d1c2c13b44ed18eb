/- heights: an act done to lines' heights and to the document's lines. -/
import Derived.Test.YtjoadlfkdkeomaaHgtM3
import Derived.LoopN
import Derived.Deep.LoopGhost
import Derived.BigRegion
import Derived.RegionTactic
import Derived.Shelf.Abstract
import Derived.ChangeKeysEq
import Derived.Deep.DeepCutAuto
import Derived.Deep.CutBlock
namespace Go.Proofs.Ytjoadlfkdkeomaa
set_option linter.unusedSimpArgs false
set_option linter.unusedVariables false
set_option linter.unusedSectionVars false
open Go.RowKit
variable {B : Nat}

/-- what an act leaves of both, whose lines are L and hidden as H says: the same was told -/
def HActs (B : Nat) (hg xg : Nat) (n : Nat) (w : World) (e : Ending) (w' : World) : Prop := e = .returned (.bool true) ∧ (∃ K rL rH L H, HX B w' hg xg K rL rH L H L H ∧ L.length ≤ n + 30) ∧ OffB B w w'
def stD (P0 P1 P2 : World → Prop) : Nat → (Nat → Value) → World → Prop
  | 0, _, x => P0 x
  | 1, _, x => P1 x
  | _, _, x => P2 x
theorem setO_le (l : Qs) (i : Int) (x : Int × Int) : (setO l i x).length = l.length := by
  unfold setO
  split
  · rw [List.length_set]
  · rfl
theorem spL_le (L m : Qs) (i n : Nat) : (spL L m i n).length ≤ L.length + m.length := by
  unfold spL
  rw [List.length_append, List.length_append, List.length_take, List.length_drop]; omega
theorem hspO_le (L m : Qs) (H : List Bool) (i k : Int) : (hspO L H i k m).1.length ≤ L.length + m.length := by
  unfold hspO
  split
  · exact spL_le _ _ _ _
  · exact Nat.le_add_right _ _
set_option maxRecDepth 100000 in
set_option maxHeartbeats 1600000 in
theorem hdoes_set (hg xg : Nat) (K : List Nat) (rL rH : Option Nat) (L : Qs) (H : List Bool) (i n x y : Int) (av : Value) (on : Bool) (w : World) (q : HX B w hg xg K rL rH L H L H) (hav : ∃ A k c, av = .slice A k c) :
    Calls Try.prog 11 #[.pointer (some ⟨hg, 0, none⟩), .pointer (some ⟨xg, 0, none⟩), .agg #[.int .i64 1, .int .i64 i, .int .i64 n, .int .i64 x, .int .i64 y, av, .bool on]] w (HActs B hg xg L.length w) := by
  have H1 := Lib.hid (fun (W : World) (a : AnyLater w W) => (hghset_any hg K L H i x y W (q.later a).h).mono fun e W' ⟨k1, k2⟩ => (⟨k1, (q.later a).hdone k2⟩ : _ ∧ (∃ K', HX B W' hg xg K' rL rH (setO L i (x, y)) H L H) ∧ OffB B W W'))
  have H2 := Lib.hid (fun (W : World) (K' : List Nat) (t : HX B W hg xg K' rL rH (setO L i (x, y)) H L H) => (xset_any xg rL rH L H i x y W t.x).mono fun e W' ⟨k1, k2⟩ => (⟨k1, t.xdone k2⟩ : _ ∧ (∃ sL sH, HX B W' hg xg K' sL sH (setO L i (x, y)) H (setO L i (x, y)) H) ∧ OffB B W W'))
  have HZ : Hid (∀ W, (∃ K' sL sH, HX B W hg xg K' sL sH (setO L i (x, y)) H (setO L i (x, y)) H) ∧ OffB B w W → HActs B hg xg L.length w (.returned (.bool true)) W) := Lib.hid (fun W ⟨⟨K', sL, sH, t⟩, o⟩ => ⟨rfl, ⟨K', sL, sH, _, _, t, by rw [setO_le]; omega⟩, o⟩)
  obtain ⟨A9, k9, c9, rfl⟩ := hav
  clear q
  generalize setC L i (x, y) = c at *
  generalize setO L i (x, y) = L2 at *
  go_enter Try.func11, Try.ntmps11
  go_wp2_with fail
  first | refine settle_wp (fun wS => AnyLater w wS ∧ wS.heap[w.heap.size]? = some (.cells #[.int .i64 1, .int .i64 i, .int .i64 n, .int .i64 x, .int .i64 y, .slice A9 k9 c9, .bool on] 35)) ?_ ?_ | refine settle_calls (fun wS => AnyLater w wS ∧ wS.heap[w.heap.size]? = some (.cells #[.int .i64 1, .int .i64 i, .int .i64 n, .int .i64 x, .int .i64 y, .slice A9 k9 c9, .bool on] 35)) ?_ ?_
  · refine ⟨?_, ?_⟩
    · repeat' (first | with_reducible assumption | with_reducible exact AnyLater.refl _ | with_reducible apply AnyLater.setCell | with_reducible apply AnyLater.later | with_reducible apply AnyLater.drewN | with_reducible apply AnyLater.drew | with_reducible apply AnyLater.alloc | ((try simp only [World.size_alloc, World.size_setCell, World.size_drew]); (try dsimp only); omega))
    · ((repeat (first | with_reducible assumption | ((with_reducible apply heap_new); (try simp only [World.size_alloc, World.size_setCell, World.size_drew, World.heap_drewN]); done) | ((with_reducible apply heap_new); (try simp only [World.size_alloc, World.size_setCell, World.size_drew, World.heap_drewN]); omega) | (with_reducible refine heap_old (by (try simp only [World.size_alloc, World.size_setCell, World.size_drew, World.heap_drewN]); omega) ?_) | (with_reducible refine heap_drew ?_) | (with_reducible refine heap_far (by omega) ?_) | (with_reducible apply heap_at))); all_goals rfl)
  rintro w1 ⟨b_w1, s0_w1⟩
  have a_w1 := b_w1
  have r0_w1 := own_row s0_w1
  have f0_w1 := own_free s0_w1
  have l0_w1 := own_lt s0_w1
  have z_w1 := b_w1.below.size
  apply wp_region_chain 14 [(5, .int .i64 c), (11, .int .i64 c)] [] (fun x' => x'.heap[w.heap.size]? = some (.cells #[.int .i64 1, .int .i64 i, .int .i64 n, .int .i64 x, .int .i64 y, .slice A9 k9 c9, .bool on] 35)) (stD (fun W => AnyLater w W) (fun W => (∃ K', HX B W hg xg K' rL rH L2 H L H) ∧ OffB B w W) (fun W => (∃ K' sL sH, HX B W hg xg K' sL sH L2 H L2 H) ∧ OffB B w W)) (by kernel_rfl) (by kernel_rfl) (by kernel_rfl) (by simp) (by kernel_rfl) (any_own ((AnyLater.refl w1).drew) s0_w1) (fun _ => a_w1.drew)
  case hlex =>
    intro U hU
    have q0 := own_row hU
    simp only [actFrom, actOp, List.lookup, Nat.reduceBEq, Nat.reduceLeDiff, Nat.reduceAdd, if_false, if_true]
    repeat (go_big_quiet_step (fail))
    exact wpQuiet_nil rfl
  case hact =>
    intro jj hjj o ho
    have hj3 : jj = 0 ∨ jj = 1 := by simp at hjj; omega
    rcases hj3 with rfl | rfl
    · cases ho
      refine ⟨rfl, fun gv x' hC hS => ?_⟩
      have hS2 : AnyLater w x' := hS
      simp only [fillAll, Act.put, List.setIfInBounds_toArray, List.set_cons_zero, List.set_cons_succ]
      refine chain_go ?_ ((H1.out x' hS2).mono fun e w'' ⟨h1, h2, h3⟩ => ⟨_, h1, h3.2 _ _ hC, .inr rfl, h2, (OffB.of hS2).trans h3⟩)
      simp [go_sem, execOp]
    · cases ho
      refine ⟨rfl, fun gv x' hC hS => ?_⟩
      obtain ⟨⟨K', hS2⟩, hS3⟩ : (∃ K', HX B x' hg xg K' rL rH L2 H L H) ∧ OffB B w x' := hS
      simp only [fillAll, Act.put, List.setIfInBounds_toArray, List.set_cons_zero, List.set_cons_succ]
      refine chain_go ?_ ((H2.out x' K' hS2).mono fun e w'' ⟨h1, ⟨sL, sH, h2⟩, h3⟩ => ⟨_, h1, h3.2 _ _ hC, .inr rfl, ⟨K', sL, sH, h2⟩, hS3.trans h3⟩)
      simp [go_sem, execOp]
  case htail =>
    intro gz wz hC hS
    have HF := Lib.hid (HZ.out wz hS)
    clear hC hS
    simp only [fillAll, Act.put, List.setIfInBounds_toArray, List.set_cons_zero, List.set_cons_succ, List.drop_succ_cons, List.drop_zero, List.drop_nil]
    go_wp2_with fail
    go_ret
    exact HF.out
set_option maxRecDepth 100000 in
set_option maxHeartbeats 1600000 in
theorem hdoes_hide (hg xg : Nat) (K : List Nat) (rL rH : Option Nat) (L : Qs) (H : List Bool) (i n x y : Int) (av : Value) (on : Bool) (w : World) (q : HX B w hg xg K rL rH L H L H) (hav : ∃ A k c, av = .slice A k c) :
    Calls Try.prog 11 #[.pointer (some ⟨hg, 0, none⟩), .pointer (some ⟨xg, 0, none⟩), .agg #[.int .i64 2, .int .i64 i, .int .i64 n, .int .i64 x, .int .i64 y, av, .bool on]] w (HActs B hg xg L.length w) := by
  have H1 := Lib.hid (fun (W : World) (a : AnyLater w W) => (hghide_any hg K L H i on W (q.later a).h).mono fun e W' ⟨k1, k2⟩ => (⟨k1, (q.later a).hdone k2⟩ : _ ∧ (∃ K', HX B W' hg xg K' rL rH L (hdO H i on) L H) ∧ OffB B W W'))
  have H2 := Lib.hid (fun (W : World) (K' : List Nat) (t : HX B W hg xg K' rL rH L (hdO H i on) L H) => (xhide_any xg rL rH L H i on W t.x).mono fun e W' ⟨k1, k2⟩ => (⟨k1, t.xdone k2⟩ : _ ∧ (∃ sL sH, HX B W' hg xg K' sL sH L (hdO H i on) L (hdO H i on)) ∧ OffB B W W'))
  have HZ : Hid (∀ W, (∃ K' sL sH, HX B W hg xg K' sL sH L (hdO H i on) L (hdO H i on)) ∧ OffB B w W → HActs B hg xg L.length w (.returned (.bool true)) W) := Lib.hid (fun W ⟨⟨K', sL, sH, t⟩, o⟩ => ⟨rfl, ⟨K', sL, sH, _, _, t, by omega⟩, o⟩)
  obtain ⟨A9, k9, c9, rfl⟩ := hav
  clear q
  generalize hdC L.length i = c at *
  generalize hdO H i on = H' at *
  go_enter Try.func11, Try.ntmps11
  go_wp2_with fail
  first | refine settle_wp (fun wS => AnyLater w wS ∧ wS.heap[w.heap.size]? = some (.cells #[.int .i64 2, .int .i64 i, .int .i64 n, .int .i64 x, .int .i64 y, .slice A9 k9 c9, .bool on] 35)) ?_ ?_ | refine settle_calls (fun wS => AnyLater w wS ∧ wS.heap[w.heap.size]? = some (.cells #[.int .i64 2, .int .i64 i, .int .i64 n, .int .i64 x, .int .i64 y, .slice A9 k9 c9, .bool on] 35)) ?_ ?_
  · refine ⟨?_, ?_⟩
    · repeat' (first | with_reducible assumption | with_reducible exact AnyLater.refl _ | with_reducible apply AnyLater.setCell | with_reducible apply AnyLater.later | with_reducible apply AnyLater.drewN | with_reducible apply AnyLater.drew | with_reducible apply AnyLater.alloc | ((try simp only [World.size_alloc, World.size_setCell, World.size_drew]); (try dsimp only); omega))
    · ((repeat (first | with_reducible assumption | ((with_reducible apply heap_new); (try simp only [World.size_alloc, World.size_setCell, World.size_drew, World.heap_drewN]); done) | ((with_reducible apply heap_new); (try simp only [World.size_alloc, World.size_setCell, World.size_drew, World.heap_drewN]); omega) | (with_reducible refine heap_old (by (try simp only [World.size_alloc, World.size_setCell, World.size_drew, World.heap_drewN]); omega) ?_) | (with_reducible refine heap_drew ?_) | (with_reducible refine heap_far (by omega) ?_) | (with_reducible apply heap_at))); all_goals rfl)
  rintro w1 ⟨b_w1, s0_w1⟩
  have a_w1 := b_w1
  have r0_w1 := own_row s0_w1
  have f0_w1 := own_free s0_w1
  have l0_w1 := own_lt s0_w1
  have z_w1 := b_w1.below.size
  apply wp_region_chain 14 [(5, .int .i64 c), (11, .int .i64 c)] [] (fun x' => x'.heap[w.heap.size]? = some (.cells #[.int .i64 2, .int .i64 i, .int .i64 n, .int .i64 x, .int .i64 y, .slice A9 k9 c9, .bool on] 35)) (stD (fun W => AnyLater w W) (fun W => (∃ K', HX B W hg xg K' rL rH L H' L H) ∧ OffB B w W) (fun W => (∃ K' sL sH, HX B W hg xg K' sL sH L H' L H') ∧ OffB B w W)) (by kernel_rfl) (by kernel_rfl) (by kernel_rfl) (by simp) (by kernel_rfl) (any_own ((AnyLater.refl w1).drew) s0_w1) (fun _ => a_w1.drew)
  case hlex =>
    intro U hU
    have q0 := own_row hU
    simp only [actFrom, actOp, List.lookup, Nat.reduceBEq, Nat.reduceLeDiff, Nat.reduceAdd, if_false, if_true]
    repeat (go_big_quiet_step (fail))
    exact wpQuiet_nil rfl
  case hact =>
    intro jj hjj o ho
    have hj3 : jj = 0 ∨ jj = 1 := by simp at hjj; omega
    rcases hj3 with rfl | rfl
    · cases ho
      refine ⟨rfl, fun gv x' hC hS => ?_⟩
      have hS2 : AnyLater w x' := hS
      simp only [fillAll, Act.put, List.setIfInBounds_toArray, List.set_cons_zero, List.set_cons_succ]
      refine chain_go ?_ ((H1.out x' hS2).mono fun e w'' ⟨h1, h2, h3⟩ => ⟨_, h1, h3.2 _ _ hC, .inr rfl, h2, (OffB.of hS2).trans h3⟩)
      simp [go_sem, execOp]
    · cases ho
      refine ⟨rfl, fun gv x' hC hS => ?_⟩
      obtain ⟨⟨K', hS2⟩, hS3⟩ : (∃ K', HX B x' hg xg K' rL rH L H' L H) ∧ OffB B w x' := hS
      simp only [fillAll, Act.put, List.setIfInBounds_toArray, List.set_cons_zero, List.set_cons_succ]
      refine chain_go ?_ ((H2.out x' K' hS2).mono fun e w'' ⟨h1, ⟨sL, sH, h2⟩, h3⟩ => ⟨_, h1, h3.2 _ _ hC, .inr rfl, ⟨K', sL, sH, h2⟩, hS3.trans h3⟩)
      simp [go_sem, execOp]
  case htail =>
    intro gz wz hC hS
    have HF := Lib.hid (HZ.out wz hS)
    clear hC hS
    simp only [fillAll, Act.put, List.setIfInBounds_toArray, List.set_cons_zero, List.set_cons_succ, List.drop_succ_cons, List.drop_zero, List.drop_nil]
    go_wp2_with fail
    go_ret
    exact HF.out
def stE (P0 : World → Prop) (P1 : Value → World → Prop) (P2 : World → Prop) (P3 : Value → World → Prop) (P4 : World → Prop) : Nat → (Nat → Value) → World → Prop
  | 0, _, x => P0 x
  | 1, g, x => P1 (g 7) x
  | 2, _, x => P2 x
  | 3, g, x => P3 (g 16) x
  | _, _, x => P4 x
set_option maxRecDepth 100000 in
set_option maxHeartbeats 3200000 in
theorem hdoes_splice (hg xg : Nat) (K : List Nat) (rL rH : Option Nat) (L m : Qs) (H : List Bool) (k i n x y : Int) (av : Value) (on : Bool) (w : World) (q : HX B w hg xg K rL rH L H L H) (hl : L.length ≤ 40000) (W0 : World) (hW0 : W0.heap.size ≤ B) (aW0 : AnyLater W0 w) (ha0 : QR W0 av m) (k1 : k ≠ 1) (k2 : k ≠ 2) :
    Calls Try.prog 11 #[.pointer (some ⟨hg, 0, none⟩), .pointer (some ⟨xg, 0, none⟩), .agg #[.int .i64 k, .int .i64 i, .int .i64 n, .int .i64 x, .int .i64 y, av, .bool on]] w (HActs B hg xg L.length w) := by
  have hBw : B ≤ w.heap.size := Nat.le_of_lt (Nat.lt_of_le_of_lt q.h.base q.h.lt)
  have hm30 : (m.take 30).length ≤ 30 := by rw [List.length_take]; omega
  have ha := ha0.later aW0
  have HF1 : Hid (∀ (W : World), AnyLater w W → Calls Try.prog 9 #[av] W fun e w' => ∃ u, e = .returned u ∧ AnyLater W w' ∧ OQ 33 w' 0 u (m.take 30)) := Lib.hid (fun W a => (htfew_any av m (m.take 30) W rfl (ha.later a)).mono fun e w' ⟨u, h1, h2, h3⟩ => ⟨u, h1, h2, OQ.wide (Nat.zero_le _) h3⟩)
  have H1 := Lib.hid (fun (W : World) (u : Value) (a : AnyLater w W) (hu : OQ 33 W 0 u (m.take 30)) => (hghsp_any hg K L (m.take 30) H i n 0 u W (q.later a).h (Nat.le_trans hBw a.below.size) hu (by omega)).mono fun e W' ⟨k1, k2⟩ => (⟨k1, (q.later a).hdone k2⟩ : _ ∧ (∃ K', HX B W' hg xg K' rL rH (hspO L H i n (m.take 30)).1 (hspO L H i n (m.take 30)).2 L H) ∧ OffB B W W'))
  have H2 := Lib.hid (fun (W : World) (K' : List Nat) (u : Value) (t : HX B W hg xg K' rL rH (hspO L H i n (m.take 30)).1 (hspO L H i n (m.take 30)).2 L H) (hu : OQ 33 W 0 u (m.take 30)) => (xsp_any xg rL rH L (m.take 30) H i n u W t.x (Nat.le_of_lt (Nat.lt_of_le_of_lt t.h.base t.h.lt)) (OQ.rq hu) (by omega)).mono fun e W' ⟨k1, k2⟩ => (⟨k1, t.xdone k2⟩ : _ ∧ (∃ sL sH, HX B W' hg xg K' sL sH (hspO L H i n (m.take 30)).1 (hspO L H i n (m.take 30)).2 (hspO L H i n (m.take 30)).1 (hspO L H i n (m.take 30)).2) ∧ OffB B W W'))
  have HZ : Hid (∀ W, (∃ K' sL sH, HX B W hg xg K' sL sH (hspO L H i n (m.take 30)).1 (hspO L H i n (m.take 30)).2 (hspO L H i n (m.take 30)).1 (hspO L H i n (m.take 30)).2) ∧ OffB B w W → HActs B hg xg L.length w (.returned (.bool true)) W) := Lib.hid (fun W ⟨⟨K', sL, sH, t⟩, o⟩ => ⟨rfl, ⟨K', sL, sH, _, _, t, Nat.le_trans (hspO_le _ _ _ _ _) (by omega)⟩, o⟩)
  -- the row of the arguments is no part of what is made, so it is read again behind the first of both
  have HF2 : Hid (∀ (W : World), OffB B w W → Calls Try.prog 9 #[av] W fun e w' => ∃ u, e = .returned u ∧ AnyLater W w' ∧ OQ 33 w' 0 u (m.take 30)) := Lib.hid (fun W o => (htfew_any av m (m.take 30) W rfl (ha0.later (o.1 W0 hW0 aW0))).mono fun e w' ⟨u, h1, h2, h3⟩ => ⟨u, h1, h2, OQ.wide (Nat.zero_le _) h3⟩)
  obtain ⟨A9, c9, rfl, -⟩ := ha.form
  have e1 : (k == 1) = false := by simpa using k1
  have e2 : (k == 2) = false := by simpa using k2
  clear q ha ha0 hl hm30 hW0 aW0
  generalize hspC L.length i n (m.take 30) = c at *
  generalize hspO L H i n (m.take 30) = LH at *
  generalize m.take 30 = m30 at *
  generalize m.length = ml at *
  go_enter Try.func11, Try.ntmps11
  go_wp2_with fail
  first | refine settle_wp (fun wS => AnyLater w wS ∧ wS.heap[w.heap.size]? = some (.cells #[.int .i64 k, .int .i64 i, .int .i64 n, .int .i64 x, .int .i64 y, .slice A9 ml c9, .bool on] 35)) ?_ ?_ | refine settle_calls (fun wS => AnyLater w wS ∧ wS.heap[w.heap.size]? = some (.cells #[.int .i64 k, .int .i64 i, .int .i64 n, .int .i64 x, .int .i64 y, .slice A9 ml c9, .bool on] 35)) ?_ ?_
  · refine ⟨?_, ?_⟩
    · repeat' (first | with_reducible assumption | with_reducible exact AnyLater.refl _ | with_reducible apply AnyLater.setCell | with_reducible apply AnyLater.later | with_reducible apply AnyLater.drewN | with_reducible apply AnyLater.drew | with_reducible apply AnyLater.alloc | ((try simp only [World.size_alloc, World.size_setCell, World.size_drew]); (try dsimp only); omega))
    · ((repeat (first | with_reducible assumption | ((with_reducible apply heap_new); (try simp only [World.size_alloc, World.size_setCell, World.size_drew, World.heap_drewN]); done) | ((with_reducible apply heap_new); (try simp only [World.size_alloc, World.size_setCell, World.size_drew, World.heap_drewN]); omega) | (with_reducible refine heap_old (by (try simp only [World.size_alloc, World.size_setCell, World.size_drew, World.heap_drewN]); omega) ?_) | (with_reducible refine heap_drew ?_) | (with_reducible refine heap_far (by omega) ?_) | (with_reducible apply heap_at))); all_goals rfl)
  rintro w1 ⟨b_w1, s0_w1⟩
  have a_w1 := b_w1
  have r0_w1 := own_row s0_w1
  have f0_w1 := own_free s0_w1
  have l0_w1 := own_lt s0_w1
  have z_w1 := b_w1.below.size
  apply wp_region_chain 20 [(7, undef), (8, .int .i64 c), (16, undef), (17, .int .i64 c)] [⟨7, 16, fun _ _ => True⟩, ⟨16, 25, fun _ _ => True⟩] (fun x' => x'.heap[w.heap.size]? = some (.cells #[.int .i64 k, .int .i64 i, .int .i64 n, .int .i64 x, .int .i64 y, .slice A9 ml c9, .bool on] 35)) (stE (fun W => AnyLater w W) (fun u W => AnyLater w W ∧ OQ 33 W 0 u m30) (fun W => (∃ K', HX B W hg xg K' rL rH LH.1 LH.2 L H) ∧ OffB B w W) (fun u W => ((∃ K', HX B W hg xg K' rL rH LH.1 LH.2 L H) ∧ OffB B w W) ∧ OQ 33 W 0 u m30) (fun W => (∃ K' sL sH, HX B W hg xg K' sL sH LH.1 LH.2 LH.1 LH.2) ∧ OffB B w W)) (by kernel_rfl) (by kernel_rfl) (by kernel_rfl) (by simp) (by kernel_rfl) (any_own ((AnyLater.refl w1).drew) s0_w1) (fun _ => a_w1.drew)
  case hlex =>
    intro U hU
    have q0 := own_row hU
    simp only [actFrom, actOp, List.lookup, Nat.reduceBEq, Nat.reduceLeDiff, Nat.reduceAdd, if_false, if_true]
    repeat (go_big_quiet_step (fail))
    exact wpQuiet_nil rfl
  case hact =>
    intro jj hjj o ho
    have hj3 : jj = 0 ∨ jj = 1 ∨ jj = 2 ∨ jj = 3 := by simp at hjj; omega
    rcases hj3 with rfl | rfl | rfl | rfl
    · cases ho
      refine ⟨rfl, fun gv x' hC hS => ?_⟩
      have hS2 : AnyLater w x' := hS
      simp only [fillAll, Act.put, List.setIfInBounds_toArray, List.set_cons_zero, List.set_cons_succ]
      refine chain_go ?_ ((HF1.out x' hS2).mono fun e w'' ⟨u, h1, h2, h3⟩ => ⟨u, h1, any_own h2 hC, .inl ⟨_, List.mem_of_getElem? (i := 0) rfl, rfl⟩, hS2.trans h2, h3⟩)
      simp [go_sem, execOp]
    · cases ho
      refine ⟨rfl, fun gv x' hC hS => ?_⟩
      obtain ⟨hS2, hS3⟩ : AnyLater w x' ∧ OQ 33 x' 0 (gv 7) m30 := hS
      simp only [fillAll, Act.put, List.setIfInBounds_toArray, List.set_cons_zero, List.set_cons_succ]
      refine chain_go ?_ ((H1.out x' (gv 7) hS2 hS3).mono fun e w'' ⟨h1, h2, h3⟩ => ⟨_, h1, h3.2 _ _ hC, .inr rfl, h2, (OffB.of hS2).trans h3⟩)
      simp [go_sem, execOp]
    · cases ho
      refine ⟨rfl, fun gv x' hC hS => ?_⟩
      obtain ⟨⟨K', hS2⟩, hS3⟩ : (∃ K', HX B x' hg xg K' rL rH LH.1 LH.2 L H) ∧ OffB B w x' := hS
      simp only [fillAll, Act.put, List.setIfInBounds_toArray, List.set_cons_zero, List.set_cons_succ]
      refine chain_go ?_ ((HF2.out x' hS3).mono fun e w'' ⟨u, h1, h2, h3⟩ => ⟨u, h1, any_own h2 hC, .inl ⟨_, List.mem_of_getElem? (i := 1) rfl, rfl⟩, ⟨⟨K', hS2.later h2⟩, hS3.trans (OffB.of h2)⟩, h3⟩)
      simp [go_sem, execOp]
    · cases ho
      refine ⟨rfl, fun gv x' hC hS => ?_⟩
      obtain ⟨⟨⟨K', hS2⟩, hS3⟩, hS4⟩ : ((∃ K', HX B x' hg xg K' rL rH LH.1 LH.2 L H) ∧ OffB B w x') ∧ OQ 33 x' 0 (gv 16) m30 := hS
      simp only [fillAll, Act.put, List.setIfInBounds_toArray, List.set_cons_zero, List.set_cons_succ]
      refine chain_go ?_ ((H2.out x' K' (gv 16) hS2 hS4).mono fun e w'' ⟨h1, ⟨sL, sH, h2⟩, h3⟩ => ⟨_, h1, h3.2 _ _ hC, .inr rfl, ⟨K', sL, sH, h2⟩, hS3.trans h3⟩)
      simp [go_sem, execOp]
  case htail =>
    intro gz wz hC hS
    have HF := Lib.hid (HZ.out wz hS)
    clear hC hS
    simp only [fillAll, Act.put, List.setIfInBounds_toArray, List.set_cons_zero, List.set_cons_succ, List.drop_succ_cons, List.drop_zero, List.drop_nil]
    generalize gz 7 = v7 at *
    generalize gz 16 = v16 at *
    go_wp2_with fail
    go_ret
    exact HF.out
/-- an act done to both -/
theorem hdoes_any (hg xg : Nat) (K : List Nat) (rL rH : Option Nat) (L m : Qs) (H : List Bool) (k i n x y : Int) (av : Value) (on : Bool) (w : World) (q : HX B w hg xg K rL rH L H L H) (hl : L.length ≤ 40000) (W0 : World) (hW0 : W0.heap.size ≤ B) (aW0 : AnyLater W0 w) (ha : QR W0 av m) :
    Calls Try.prog 11 #[.pointer (some ⟨hg, 0, none⟩), .pointer (some ⟨xg, 0, none⟩), .agg #[.int .i64 k, .int .i64 i, .int .i64 n, .int .i64 x, .int .i64 y, av, .bool on]] w (HActs B hg xg L.length w) := by
  have hav : ∃ A k c, av = .slice A k c := by
    obtain ⟨A, c, e, _⟩ := ha.form
    exact ⟨_, _, _, e⟩
  by_cases k1 : k = 1
  · subst k1
    exact hdoes_set hg xg K rL rH L H i n x y av on w q hav
  · by_cases k2 : k = 2
    · subst k2
      exact hdoes_hide hg xg K rL rH L H i n x y av on w q hav
    · exact hdoes_splice hg xg K rL rH L m H k i n x y av on w q hl W0 hW0 aW0 ha k1 k2
end Go.Proofs.Ytjoadlfkdkeomaa
