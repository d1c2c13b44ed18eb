/- seq: an act done to a Seq and to the document's list. -/
import Derived.Test.YthgfmlfgbghfbaaSeqT
import Derived.Test.YthgfmlfgbghfbaaFree
import Derived.Test.YthgfmlfgbghfbaaClc
import Derived.Test.YthgfmlfgbghfbaaStor
import Derived.Lib.AppendZeros
import Derived.LoopN
import Derived.Deep.LoopGhost
import Derived.BigRegion
import Derived.RegionTactic
import Derived.Shelf.Abstract
import Derived.ChangeKeysEq
import Derived.Deep.DeepCutAuto
import Derived.Deep.CutBlock
namespace Go.Proofs.Ythgfmlfgbghfbaa
set_option linter.unusedSimpArgs false
set_option linter.unusedVariables false
set_option linter.unusedSectionVars false
open Go.RowKit
variable {B : Nat}


/-! ### a Seq and the document's list, side by side -/
theorem QR.only {w : World} {v : Value} {l m : Qs} (h : QR w v l) (k : QR w v m) : l = m := by
  obtain ⟨A, cap, rfl, h2, h3⟩ := h
  obtain ⟨A', cap', e, k2, k3⟩ := k
  simp only [Value.slice.injEq] at e
  obtain ⟨e1, e2, e3⟩ := e
  subst e1
  refine List.ext_getElem e2 (fun j hj hj2 => ?_)
  obtain ⟨b, off, e4, _, hc⟩ := h3 (by omega)
  obtain ⟨b', off', e5, _, kc⟩ := k3 (by omega)
  rw [e4] at e5
  cases e5
  obtain ⟨a1, a2⟩ := hc j hj
  obtain ⟨c1, c2⟩ := kc j hj2
  rw [a1] at c1
  rw [a2] at c2
  simp only [Option.some.injEq, Value.int.injEq, true_and] at c1 c2
  exact Prod.ext c1 c2
/-- both have the same heights, and the list's row is no part of the tree -/
structure HBoth (B : Nat) (w : World) (g : Nat) (t : Ht) (v : Value) : Prop where
  seq : QAt B w g t
  row : OQ 34 w B v t.hs
  apart : ∀ k, v.ownBlock = some k → k ∉ t.bks
theorem HBoth.later {w w' : World} {g : Nat} {t : Ht} {v : Value} (h : HBoth B w g t v) (a : AnyLater w w') : HBoth B w' g t v := ⟨h.seq.later a, OQ.later a h.row, h.apart⟩
theorem QAt.bks_lt {w : World} {g : Nat} {t : Ht} (h : QAt B w g t) : ∀ b ∈ t.bks, b < w.heap.size := fun b hb => by
  obtain ⟨rv, _, _, F, hF, _⟩ := h.obj
  exact own_lt (hF.rows b hb).2.choose_spec
theorem QAt.g_lt {w : World} {g : Nat} {t : Ht} (h : QAt B w g t) : g < w.heap.size := by
  obtain ⟨rv, hg, _⟩ := h.obj
  exact own_lt hg
/-- what a change of the Seq leaves of a row that is no part of it -/
theorem row_stays {w w' : World} {g : Nat} {t : Ht} {v : Value} {l : Qs} (h : QAt B w g t) (ho : OQ 34 w B v l) (ap : ∀ k, v.ownBlock = some k → k ∉ t.bks) (s : Stays (Chg B w g t) w w') : OQ 34 w' B v l := by
  refine ⟨ho.1, ?_⟩
  rcases ho.2 with q | ⟨b, cap, cur, rfl, h2, h3, h4⟩
  · exact .inl q
  · refine .inr ⟨b, cap, cur, rfl, h2, s.own h3 (fun hc => ?_), h4⟩
    rcases hc with rfl | ⟨_, ⟨cs, hc⟩ | hc⟩
    · obtain ⟨rv, hg, _⟩ := h.obj
      rw [hg] at h3; cases h3
    · exact node_tall hc h3
    · exact ap b rfl hc
/-- a list that the document's call answered, beside the Seq behind the same call -/
theorem HBoth.done {w w0 w' : World} {g : Nat} {t : Ht} {u : Value} {l : Qs} (h : QAt B w g t) (a : AnyLater w w0) (ho : OQ 34 w0 B u l) (ap : ∀ k, u.ownBlock = some k → k ∉ t.bks) (hd : QDone B w0 g t l w') : ∃ t', t'.hs = l ∧ HBoth B w' g t' u ∧ Stays (Chg B w g t) w w' := by
  have h0 := h.later a
  obtain ⟨⟨t', k1, k2, k3⟩, st⟩ := hd
  refine ⟨t', k2, ⟨k1, by rw [k2]; exact row_stays h0 ho ap st, fun k hk hb => ?_⟩, (Stays.of a).more st (fun b hb => ?_)⟩
  · rcases k3 k hb with q | q
    · exact ap k hk q
    · rcases ho.2 with ⟨rfl, _⟩ | ⟨b, cap, cur, rfl, _, h3, _⟩
      · cases hk
      · cases hk
        have := own_lt h3
        dsimp only at q
        omega
  · rcases Nat.lt_or_ge b w.heap.size with hl | hl
    · refine .inl ?_
      rcases hb with rfl | ⟨h1, ⟨cs, hc⟩ | hc⟩
      · exact .inl rfl
      · exact .inr ⟨h1, .inl ⟨cs, (a.below.block b hl).symm.trans hc⟩⟩
      · exact .inr ⟨h1, .inr hc⟩
    · exact .inr hl
/-- the document's answer as a row of its own -/
theorem RDone.row {w w0 w1 : World} {v u : Value} {l m : Qs} (ho : OQ 34 w B v l) (a : AnyLater w w0) (hb : B ≤ w0.heap.size) (a1 : AnyLater w0 w1) (h : (u = v ∧ QR w1 u m) ∨ OQ 34 w1 w0.heap.size u m) : OQ 34 w1 B u m ∧ ∀ k, u.ownBlock = some k → v.ownBlock = some k ∨ w0.heap.size ≤ k := by
  rcases h with ⟨rfl, q⟩ | q
  · have e : l = m := QR.only ((OQ.rq ho).later (a.trans a1)) q
    subst e
    exact ⟨OQ.later (a.trans a1) ho, fun k hk => .inl hk⟩
  · exact ⟨OQ.wide hb q, fun k hk => .inr (owns_base q k hk)⟩
/-- what an act leaves of both -/
def HAct (B : Nat) (w : World) (g : Nat) (t : Ht) (e : Ending) (w' : World) : Prop := ∃ t' u, e = .returned (.tuple #[u, .bool true]) ∧ HBoth B w' g t' u ∧ Stays (Chg B w g t) w w' ∧ t'.hs.length ≤ t.hs.length + 30
theorem qdelO_le (l : Qs) (i k : Int) : (qdelO l i k).length ≤ l.length := by
  unfold qdelO
  split
  · rw [List.length_append, List.length_take, List.length_drop]; omega
  · exact Nat.le_refl _
theorem setO_le (l : Qs) (i : Int) (x : Int × Int) : (setO l i x).length = l.length := by
  unfold setO
  split
  · rw [List.length_set]
  · rfl
theorem qinsO_le (l : Qs) (i : Int) (m : Qs) : (qinsO l i m).length ≤ l.length + m.length := by
  unfold qinsO
  split
  · rw [List.length_append, List.length_append, List.length_take, List.length_drop]; omega
  · omega
theorem HAct.of {w w0 w1 w' : World} {g : Nat} {t : Ht} {v u : Value} {l : Qs} (h : HBoth B w g t v) (a : AnyLater w w0) (a1 : AnyLater w0 w1) (hr : (u = v ∧ QR w1 u l) ∨ OQ 34 w1 w0.heap.size u l) (hl : l.length ≤ t.hs.length + 30) (hd : QDone B w1 g t l w') : HAct B w g t (.returned (.tuple #[u, .bool true])) w' := by
  obtain ⟨h1, h2⟩ := RDone.row h.row a (Nat.le_trans h.seq.le a.below.size) a1 hr
  obtain ⟨t', e, hb, st⟩ := HBoth.done h.seq (a.trans a1) h1 (fun k hk hb => (h2 k hk).elim (fun q => h.apart k q hb) (fun q => by
    have := h.seq.bks_lt k hb
    have := a.below.size
    omega)) hd
  exact ⟨t', u, rfl, hb, st, by rw [e]; exact hl⟩
set_option maxRecDepth 100000 in
set_option maxHeartbeats 1600000 in
theorem does_delete (g : Nat) (t : Ht) (v : Value) (i n x y : Int) (av : Value) (w : World) (h : HBoth B w g t v) (hm : t.hs.length ≤ 40000) :
    Calls Try.prog 12 #[.pointer (some ⟨g, 0, none⟩), v, .agg #[.int .i64 1, .int .i64 i, .int .i64 n, .int .i64 x, .int .i64 y, av]] w (HAct B w g t) := by
  have HR := Lib.hid (fun (w' : World) (a : AnyLater w w') => rdel_any v t.hs i n w' ((OQ.rq h.row).later a) (by omega))
  have HQ := Lib.hid (fun (w' : World) (a : AnyLater w w') => sqdel_any g t i n w' (h.seq.later a))
  have HE := Lib.hid (fun (w0 w1 w' : World) (u : Value) (a : AnyLater w w0) (a1 : AnyLater w0 w1) hr hd => HAct.of (u := u) (w' := w') (l := qdelO t.hs i n) h a a1 hr (Nat.le_trans (qdelO_le _ _ _) (by omega)) hd)
  obtain ⟨A, cap, rfl, -⟩ := (OQ.rq h.row).form
  clear h hm
  generalize qdelC t.hs.length i n = c at *
  generalize qdelO t.hs i n = l2 at *
  generalize t.hs.length = k at *
  go_enter Try.func12, Try.ntmps12
  go_wp2_with fail
  first | refine settle_wp (fun wS => AnyLater w wS ∧ wS.heap[w.heap.size]? = some (.cells #[.int .i64 1, .int .i64 i, .int .i64 n, .int .i64 x, .int .i64 y, av] 36)) ?_ ?_ | refine settle_calls (fun wS => AnyLater w wS ∧ wS.heap[w.heap.size]? = some (.cells #[.int .i64 1, .int .i64 i, .int .i64 n, .int .i64 x, .int .i64 y, av] 36)) ?_ ?_
  · refine ⟨?_, ?_⟩
    · repeat' (first | with_reducible assumption | with_reducible exact AnyLater.refl _ | with_reducible apply AnyLater.setCell | with_reducible apply AnyLater.later | with_reducible apply AnyLater.drewN | with_reducible apply AnyLater.drew | with_reducible apply AnyLater.alloc | ((try simp only [World.size_alloc, World.size_setCell, World.size_drew]); (try dsimp only); omega))
    · ((repeat (first | with_reducible assumption | ((with_reducible apply heap_new); (try simp only [World.size_alloc, World.size_setCell, World.size_drew, World.heap_drewN]); done) | ((with_reducible apply heap_new); (try simp only [World.size_alloc, World.size_setCell, World.size_drew, World.heap_drewN]); omega) | (with_reducible refine heap_old (by (try simp only [World.size_alloc, World.size_setCell, World.size_drew, World.heap_drewN]); omega) ?_) | (with_reducible refine heap_drew ?_) | (with_reducible refine heap_far (by omega) ?_) | (with_reducible apply heap_at))); all_goals rfl)
  rintro w1 ⟨b_w1, s0_w1⟩
  have a_w1 := b_w1
  have r0_w1 := own_row s0_w1
  have f0_w1 := own_free s0_w1
  have l0_w1 := own_lt s0_w1
  have z_w1 := b_w1.below.size
  refine (HR.out w1 a_w1).mono ?_
  rintro e w2 ⟨u, rfl, b_w2, hu⟩
  have z_w2 := b_w2.below.size
  have a_w2 := a_w1.trans b_w2
  have s0_w2 := any_own b_w2 s0_w1
  have r0_w2 := own_row s0_w2
  have f0_w2 := own_free s0_w2
  have l0_w2 := own_lt s0_w2
  (try clear r0_w1); (try clear f0_w1)
  have HU := Lib.hid hu
  clear hu
  go_wp2_with fail
  refine (HQ.out w2 a_w2).mono ?_
  rintro e w3 ⟨rfl, hq⟩
  have HZ := Lib.hid (HE.out w1 w2 w3 u a_w1 b_w2 HU.out hq)
  clear hq
  go_wp2_with fail
  refine bodyPost_ret (v := .tuple #[u, .bool true]) (by simp [results, Try.results12, go_sem]) rfl ?_
  exact HZ.out
set_option maxRecDepth 100000 in
set_option maxHeartbeats 1600000 in
theorem does_set (g : Nat) (t : Ht) (v : Value) (i n x y : Int) (av : Value) (w : World) (h : HBoth B w g t v) (hm : t.hs.length ≤ 40000) :
    Calls Try.prog 12 #[.pointer (some ⟨g, 0, none⟩), v, .agg #[.int .i64 2, .int .i64 i, .int .i64 n, .int .i64 x, .int .i64 y, av]] w (HAct B w g t) := by
  have HR := Lib.hid (fun (w' : World) (a : AnyLater w w') => rset_any v t.hs i x y w' ((OQ.rq h.row).later a) (by omega))
  have HQ := Lib.hid (fun (w' : World) (a : AnyLater w w') => sqset_any g t i x y w' (h.seq.later a))
  have HE := Lib.hid (fun (w0 w1 w' : World) (u : Value) (a : AnyLater w w0) (a1 : AnyLater w0 w1) hr hd => HAct.of (u := u) (w' := w') (l := setO t.hs i (x, y)) h a a1 hr (by rw [setO_le]; omega) hd)
  obtain ⟨A, cap, rfl, -⟩ := (OQ.rq h.row).form
  clear h hm
  generalize setC t.hs i (x, y) = c at *
  generalize setO t.hs i (x, y) = l2 at *
  generalize t.hs.length = k at *
  go_enter Try.func12, Try.ntmps12
  go_wp2_with fail
  first | refine settle_wp (fun wS => AnyLater w wS ∧ wS.heap[w.heap.size]? = some (.cells #[.int .i64 2, .int .i64 i, .int .i64 n, .int .i64 x, .int .i64 y, av] 36)) ?_ ?_ | refine settle_calls (fun wS => AnyLater w wS ∧ wS.heap[w.heap.size]? = some (.cells #[.int .i64 2, .int .i64 i, .int .i64 n, .int .i64 x, .int .i64 y, av] 36)) ?_ ?_
  · refine ⟨?_, ?_⟩
    · repeat' (first | with_reducible assumption | with_reducible exact AnyLater.refl _ | with_reducible apply AnyLater.setCell | with_reducible apply AnyLater.later | with_reducible apply AnyLater.drewN | with_reducible apply AnyLater.drew | with_reducible apply AnyLater.alloc | ((try simp only [World.size_alloc, World.size_setCell, World.size_drew]); (try dsimp only); omega))
    · ((repeat (first | with_reducible assumption | ((with_reducible apply heap_new); (try simp only [World.size_alloc, World.size_setCell, World.size_drew, World.heap_drewN]); done) | ((with_reducible apply heap_new); (try simp only [World.size_alloc, World.size_setCell, World.size_drew, World.heap_drewN]); omega) | (with_reducible refine heap_old (by (try simp only [World.size_alloc, World.size_setCell, World.size_drew, World.heap_drewN]); omega) ?_) | (with_reducible refine heap_drew ?_) | (with_reducible refine heap_far (by omega) ?_) | (with_reducible apply heap_at))); all_goals rfl)
  rintro w1 ⟨b_w1, s0_w1⟩
  have a_w1 := b_w1
  have r0_w1 := own_row s0_w1
  have f0_w1 := own_free s0_w1
  have l0_w1 := own_lt s0_w1
  have z_w1 := b_w1.below.size
  refine (HR.out w1 a_w1).mono ?_
  rintro e w2 ⟨u, rfl, b_w2, hu⟩
  have z_w2 := b_w2.below.size
  have a_w2 := a_w1.trans b_w2
  have s0_w2 := any_own b_w2 s0_w1
  have r0_w2 := own_row s0_w2
  have f0_w2 := own_free s0_w2
  have l0_w2 := own_lt s0_w2
  (try clear r0_w1); (try clear f0_w1)
  have HU := Lib.hid hu
  clear hu
  go_wp2_with fail
  refine (HQ.out w2 a_w2).mono ?_
  rintro e w3 ⟨rfl, hq⟩
  have HZ := Lib.hid (HE.out w1 w2 w3 u a_w1 b_w2 HU.out hq)
  clear hq
  go_wp2_with fail
  refine bodyPost_ret (v := .tuple #[u, .bool true]) (by simp [results, Try.results12, go_sem]) rfl ?_
  exact HZ.out
/-- what the document's Insert answers: a list, as it was or new -/
def isRowV (w : World) (v : Value) (l : Qs) (z : Value) (x : World) : Prop := ∃ W, AnyLater w W ∧ AnyLater W x ∧ ((z = v ∧ QR x z l) ∨ OQ 34 x W.heap.size z l)
def isDone (w : World) (v : Value) (l : Qs) (c : Int) (u : Value) (x : World) : Prop := ∃ z, u = .tuple #[z, .int .i64 c] ∧ isRowV w v l z x
theorem isRowV_stays {W : World} {v : Value} {l : Qs} {u : Value} {w w' : World} (h : AnyLater w w') (s : isRowV W v l u w) : isRowV W v l u w' := by
  obtain ⟨V, k1, k2, ⟨e, q⟩ | q⟩ := s
  · exact ⟨V, k1, k2.trans h, .inl ⟨e, q.later h⟩⟩
  · exact ⟨V, k1, k2.trans h, .inr (OQ.later h q)⟩
theorem isDone_stays {W : World} {v : Value} {l : Qs} {c : Int} {u : Value} {w w' : World} (h : AnyLater w w') (s : isDone W v l c u w) : isDone W v l c u w' := by
  obtain ⟨z, e, q⟩ := s
  exact ⟨z, e, isRowV_stays h q⟩
def stI (B : Nat) (W : World) (g : Nat) (t : Ht) (l m : Qs) : Nat → (Nat → Value) → World → Prop
  | 0, _, x => AnyLater W x
  | 1, gv, x => AnyLater W x ∧ QR x (gv 6) m
  | _, _, x => ∃ y, AnyLater W y ∧ QDone B y g t l x
theorem few_wild {v : Value} {m : Qs} {x : World} (h : Calls Try.prog 8 #[v] x (RowT x m)) : Calls Try.prog 8 #[v] x fun e w' => ∃ u, e = .returned u ∧ AnyLater x w' ∧ QR w' u m := h.mono fun _ _ ⟨u, h1, h2, h3⟩ => ⟨u, h1, h2, OQ.rq h3⟩
set_option maxRecDepth 100000 in
set_option maxHeartbeats 3200000 in
theorem does_insert (gq : Nat) (t : Ht) (v : Value) (k i n x y : Int) (av : Value) (m : Qs) (w : World) (h : HBoth B w gq t v) (hm : t.hs.length ≤ 40000) (ha : QR w av m) (k1 : k ≠ 1) (k2 : k ≠ 2) :
    Calls Try.prog 12 #[.pointer (some ⟨gq, 0, none⟩), v, .agg #[.int .i64 k, .int .i64 i, .int .i64 n, .int .i64 x, .int .i64 y, av]] w (HAct B w gq t) := by
  have hm30 : (m.take 30).length ≤ 30 := by rw [List.length_take]; omega
  have HFew := Lib.hid (fun (w' : World) (a : AnyLater w w') => few_wild (tlfew_any av m (m.take 30) w' rfl (ha.later a)))
  have HR := Lib.hid (fun (w' : World) (u : Value) (a : AnyLater w w') (hu : QR w' u (m.take 30)) => (rins_any v u t.hs (m.take 30) i w' ((OQ.rq h.row).later a) hu (by omega)).mono fun e w'' (q : RDone w' v (qinsO t.hs i (m.take 30)) (qinsC t.hs.length i (m.take 30)) e w'') => (show ∃ z, e = .returned z ∧ AnyLater w' w'' ∧ isDone w v (qinsO t.hs i (m.take 30)) (qinsC t.hs.length i (m.take 30)) z w'' from by
    obtain ⟨z, e1, e2, e3⟩ := q
    exact ⟨_, e1, e2, z, rfl, w', a, e2, e3⟩))
  have HQ := Lib.hid (fun (w' : World) (u : Value) (a : AnyLater w w') (hu : QR w' u (m.take 30)) => sqins_any gq u t i (m.take 30) w' (h.seq.later a) hu (by omega))
  have HE : Hid (∀ (w1 w2 w' : World) (u : Value), isRowV w v (qinsO t.hs i (m.take 30)) u w1 → AnyLater w1 w2 → QDone B w2 gq t (qinsO t.hs i (m.take 30)) w' → HAct B w gq t (.returned (.tuple #[u, .bool true])) w') := Lib.hid (fun w1 w2 w' u hr a hd => by
    obtain ⟨W, a1, a2, hr⟩ := isRowV_stays a hr
    exact HAct.of h a1 a2 hr (Nat.le_trans (qinsO_le _ _ _) (by omega)) hd)
  have HBox : Hid (∀ (w1 w' : World) (l : Qs), AnyLater w w1 → w1.heap[w.heap.size]? = some (.cells #[.int .i64 k, .int .i64 i, .int .i64 n, .int .i64 x, .int .i64 y, av] 36) → QDone B w1 gq t l w' → w'.heap[w.heap.size]? = some (.cells #[.int .i64 k, .int .i64 i, .int .i64 n, .int .i64 x, .int .i64 y, av] 36)) := Lib.hid (fun w1 w' l a hb hd => hd.2.own hb (fun hc => by
    rcases hc with e | ⟨_, ⟨cs, hc⟩ | hc⟩
    · have := h.seq.g_lt; omega
    · rw [hb] at hc; cases hc
    · have := h.seq.bks_lt _ hc; omega))
  obtain ⟨A, cap, rfl, -⟩ := (OQ.rq h.row).form
  obtain ⟨A2, cap2, rfl, -⟩ := ha.form
  have e1 : (k == 1) = false := by simpa using k1
  have e2 : (k == 2) = false := by simpa using k2
  clear h hm ha hm30 k1 k2
  generalize qinsC t.hs.length i (m.take 30) = c at *
  generalize qinsO t.hs i (m.take 30) = l2 at *
  generalize t.hs.length = kk at *
  generalize m.take 30 = m30 at *
  generalize m.length = ml at *
  go_enter Try.func12, Try.ntmps12
  go_wp2_with fail
  first | refine settle_wp (fun wS => AnyLater w wS ∧ wS.heap[w.heap.size]? = some (.cells #[.int .i64 k, .int .i64 i, .int .i64 n, .int .i64 x, .int .i64 y, .slice A2 ml cap2] 36)) ?_ ?_ | refine settle_calls (fun wS => AnyLater w wS ∧ wS.heap[w.heap.size]? = some (.cells #[.int .i64 k, .int .i64 i, .int .i64 n, .int .i64 x, .int .i64 y, .slice A2 ml cap2] 36)) ?_ ?_
  · refine ⟨?_, ?_⟩
    · repeat' (first | with_reducible assumption | with_reducible exact AnyLater.refl _ | with_reducible apply AnyLater.setCell | with_reducible apply AnyLater.later | with_reducible apply AnyLater.drewN | with_reducible apply AnyLater.drew | with_reducible apply AnyLater.alloc | ((try simp only [World.size_alloc, World.size_setCell, World.size_drew]); (try dsimp only); omega))
    · ((repeat (first | with_reducible assumption | ((with_reducible apply heap_new); (try simp only [World.size_alloc, World.size_setCell, World.size_drew, World.heap_drewN]); done) | ((with_reducible apply heap_new); (try simp only [World.size_alloc, World.size_setCell, World.size_drew, World.heap_drewN]); omega) | (with_reducible refine heap_old (by (try simp only [World.size_alloc, World.size_setCell, World.size_drew, World.heap_drewN]); omega) ?_) | (with_reducible refine heap_drew ?_) | (with_reducible refine heap_far (by omega) ?_) | (with_reducible apply heap_at))); all_goals rfl)
  rintro w1 ⟨b_w1, s0_w1⟩
  have a_w1 := b_w1
  have r0_w1 := own_row s0_w1
  have f0_w1 := own_free s0_w1
  have l0_w1 := own_lt s0_w1
  have z_w1 := b_w1.below.size
  apply Wild.wp_region_free (12) [⟨5, 22, undef, true, fun u x => QR x u m30⟩, ⟨6, 23, undef, true, isDone w (.slice A kk cap) l2 c⟩, ⟨7, 16, undef, true, isDone w (.slice A kk cap) l2 c⟩, ⟨8, 24, undef, true, isRowV w (.slice A kk cap) l2⟩, ⟨9, 25, .int .i64 c, false, fun v _ => v = .int .i64 c⟩, ⟨10, 12, undef, true, isRowV w (.slice A kk cap) l2⟩] [⟨5, 22, fun u x => QR x u m30⟩, ⟨6, 23, isDone w (.slice A kk cap) l2 c⟩, ⟨7, 16, isDone w (.slice A kk cap) l2 c⟩, ⟨8, 24, isRowV w (.slice A kk cap) l2⟩, ⟨10, 12, isRowV w (.slice A kk cap) l2⟩] rfl (by kernel_rfl) (by kernel_rfl) (by kernel_rfl) (by simp) (by kernel_rfl)
  case hstab =>
    intro c hc
    simp only [List.mem_cons, List.not_mem_nil, or_false] at hc
    rcases hc with rfl | rfl | rfl | rfl | rfl | rfl
    · intro v x y hxy hv; exact (fun h k => QR.later k h) hxy hv
    · intro v x y hxy hv; exact isDone_stays hxy hv
    · intro v x y hxy hv; exact isDone_stays hxy hv
    · intro v x y hxy hv; exact isRowV_stays hxy hv
    · intro v x y hxy hv; exact hv
    · intro v x y hxy hv; exact isRowV_stays hxy hv
  case hfix =>
    intro c hc
    simp only [List.mem_cons, List.not_mem_nil, or_false] at hc
    rcases hc with rfl | rfl | rfl | rfl | rfl | rfl
    · exact .inl rfl
    · exact .inl rfl
    · exact .inl rfl
    · exact .inl rfl
    · exact .inr fun u x h => h
    · exact .inl rfl
  case hlex =>
    intro U hU
    have q0 := own_row (any_own hU s0_w1)
    simp only [List.map_cons, List.map_nil, CA.act, actFrom, actOp, List.lookup, Nat.reduceBEq, Nat.reduceLeDiff, Nat.reduceAdd, if_false, if_true]
    repeat (go_big_quiet_step (fail))
    exact wpQuiet_nil rfl
  case hstep =>
    intro j hj o ho
    have hj2 : j = 0 ∨ j = 1 ∨ j = 2 ∨ j = 3 ∨ j = 4 ∨ j = 5 := by simp at hj; omega
    rcases hj2 with rfl | rfl | rfl | rfl | rfl | rfl
    · cases ho
      refine ⟨rfl, fun g x hx hp => ?_⟩
      clear hp
      simp only [fillAll, Act.put, List.setIfInBounds_toArray, List.set_cons_zero, List.set_cons_succ]
      refine chain_go ?_ (Wild.free_tells (HFew.out x (a_w1.trans hx)))
      first | (simp [go_sem, execOp]; done) | simp [go_sem, execOp, hcf]
    · cases ho
      refine ⟨rfl, fun g x hx hp => ?_⟩
      have p22 : (fun u x => QR x u m30) (g 5) x := hp _ (List.mem_of_getElem? (i := 0) rfl) (List.contains_iff_mem.1 (by kernel_rfl))
      clear hp
      simp only [fillAll, Act.put, List.setIfInBounds_toArray, List.set_cons_zero, List.set_cons_succ]
      refine chain_go ?_ (Wild.free_tells (HR.out x _ (a_w1.trans hx) p22))
      first | (simp [go_sem, execOp]; done) | simp [go_sem, execOp, hcf]
    · cases ho
      refine ⟨rfl, fun g x hx hp => ?_⟩
      have p23 : (isDone w (.slice A kk cap) l2 c) (g 6) x := hp _ (List.mem_of_getElem? (i := 1) rfl) (List.contains_iff_mem.1 (by kernel_rfl))
      clear hp
      simp only [fillAll, Act.put, List.setIfInBounds_toArray, List.set_cons_zero, List.set_cons_succ]
      refine Wild.free_is (v := g 6) ?_ p23; simp [go_sem, execOp]
    · cases ho
      refine ⟨rfl, fun g x hx hp => ?_⟩
      have p16 : (isDone w (.slice A kk cap) l2 c) (g 7) x := hp _ (List.mem_of_getElem? (i := 2) rfl) (List.contains_iff_mem.1 (by kernel_rfl))
      clear hp
      simp only [fillAll, Act.put, List.setIfInBounds_toArray, List.set_cons_zero, List.set_cons_succ]
      (obtain ⟨vv, ev, rv⟩ := p16; refine Wild.free_is (v := vv) ?_ rv; simp [go_sem, execOp, ev])
    · cases ho
      refine ⟨rfl, fun g x hx hp => ?_⟩
      have p16 : (isDone w (.slice A kk cap) l2 c) (g 7) x := hp _ (List.mem_of_getElem? (i := 2) rfl) (List.contains_iff_mem.1 (by kernel_rfl))
      clear hp
      simp only [fillAll, Act.put, List.setIfInBounds_toArray, List.set_cons_zero, List.set_cons_succ]
      (obtain ⟨vv, ev, rv⟩ := p16; refine Wild.free_op ?_; simp [go_sem, execOp, ev])
    · cases ho
      refine ⟨rfl, fun g x hx hp => ?_⟩
      have p24 : (isRowV w (.slice A kk cap) l2) (g 8) x := hp _ (List.mem_of_getElem? (i := 3) rfl) (List.contains_iff_mem.1 (by kernel_rfl))
      clear hp
      simp only [fillAll, Act.put, List.setIfInBounds_toArray, List.set_cons_zero, List.set_cons_succ]
      refine Wild.free_is (v := g 8) ?_ p24; simp [go_sem, execOp]
  case htail =>
    intro g u hst hne
    have b_w2 : AnyLater w1 (later u) := ⟨u, rfl⟩
    generalize later u = w2 at *
    clear u hne
    obtain ⟨p22_w2, -⟩ := hst _ (List.mem_of_getElem? (i := 0) rfl)
    (try dsimp only at p22_w2)
    obtain ⟨p23_w2, -⟩ := hst _ (List.mem_of_getElem? (i := 1) rfl)
    (try dsimp only at p23_w2)
    obtain ⟨p16_w2, -⟩ := hst _ (List.mem_of_getElem? (i := 2) rfl)
    (try dsimp only at p16_w2)
    obtain ⟨p24_w2, -⟩ := hst _ (List.mem_of_getElem? (i := 3) rfl)
    (try dsimp only at p24_w2)
    obtain ⟨p12_w2, -⟩ := hst _ (List.mem_of_getElem? (i := 4) rfl)
    (try dsimp only at p12_w2)
    clear hst
    simp only [fillAll, Act.put, List.setIfInBounds_toArray, List.set_cons_zero, List.set_cons_succ, List.drop_succ_cons, List.drop_zero, List.drop_nil]
    generalize g 5 = v22 at *
    generalize g 6 = v23 at *
    generalize g 7 = v16 at *
    generalize g 8 = v24 at *
    generalize g 10 = v12 at *
    have z_w2 := b_w2.below.size
    have a_w2 := a_w1.trans b_w2
    have s0_w2 := any_own b_w2 s0_w1
    have r0_w2 := own_row s0_w2
    have f0_w2 := own_free s0_w2
    have l0_w2 := own_lt s0_w2
    (try clear r0_w1); (try clear f0_w1)
    have HV := Lib.hid p12_w2
    clear p12_w2 p22_w2 p23_w2 p16_w2 p24_w2
    go_wp2_with fail
    have HB0 := Lib.hid s0_w2
    apply wp_region_chain 12 [(6, undef), (7, .int .i64 c)] [⟨6, 32, fun _ _ => True⟩] (fun x' => x'.heap[w.heap.size]? = some (.cells #[.int .i64 k, .int .i64 i, .int .i64 n, .int .i64 x, .int .i64 y, .slice A2 ml cap2] 36)) (stI B w2 gq t l2 m30) (by kernel_rfl) (by kernel_rfl) (by kernel_rfl) (by simp) (by kernel_rfl) (any_own ((AnyLater.refl w2).drew) s0_w2) (fun _ => (AnyLater.refl w2).drew)
    case hlex =>
      intro U hU
      have q0 := own_row hU
      simp only [actFrom, actOp, List.lookup, Nat.reduceBEq, Nat.reduceLeDiff, Nat.reduceAdd, if_false, if_true]
      repeat (go_big_quiet_step (fail))
      exact wpQuiet_nil rfl
    case hact =>
      intro jj hjj o ho
      have hj3 : jj = 0 ∨ jj = 1 := by simp at hjj; omega
      rcases hj3 with rfl | rfl
      · cases ho
        refine ⟨rfl, fun gv x' hC hS => ?_⟩
        have hS2 : AnyLater w2 x' := hS
        simp only [fillAll, Act.put, List.setIfInBounds_toArray, List.set_cons_zero, List.set_cons_succ]
        refine chain_go ?_ ((HFew.out x' (a_w2.trans hS2)).mono fun e w'' ⟨u, h1, h2, h3⟩ => ⟨u, h1, any_own h2 hC, .inl ⟨_, List.mem_of_getElem? (i := 0) rfl, rfl⟩, hS2.trans h2, h3⟩)
        simp [go_sem, execOp]
      · cases ho
        refine ⟨rfl, fun gv x' hC hS => ?_⟩
        have hS2 : AnyLater w2 x' ∧ QR x' (gv 6) m30 := hS
        simp only [fillAll, Act.put, List.setIfInBounds_toArray, List.set_cons_zero, List.set_cons_succ]
        refine chain_go ?_ ((HQ.out x' (gv 6) (a_w2.trans hS2.1) hS2.2).mono fun e w'' ⟨h1, h2⟩ => ⟨_, h1, HBox.out x' w'' l2 (a_w2.trans hS2.1) hC h2, .inr rfl, x', hS2.1, h2⟩)
        simp [go_sem, execOp]
    case htail =>
      intro gz wz hC hS
      obtain ⟨y', hy1, hy2⟩ : ∃ y', AnyLater w2 y' ∧ QDone B y' gq t l2 wz := hS
      have HZ := Lib.hid (HE.out w2 y' wz v12 HV.out hy1 hy2)
      clear hC hy1 hy2
      simp only [fillAll, Act.put, List.setIfInBounds_toArray, List.set_cons_zero, List.set_cons_succ, List.drop_succ_cons, List.drop_zero, List.drop_nil]
      generalize gz 6 = v6 at *
      go_wp2_with fail
      refine bodyPost_ret (v := .tuple #[v12, .bool true]) (by simp [results, Try.results12, go_sem]) rfl ?_
      exact HZ.out
/-- an act done to both -/
theorem does_both (g : Nat) (t : Ht) (v : Value) (k i n x y : Int) (av : Value) (m : Qs) (w : World) (h : HBoth B w g t v) (hm : t.hs.length ≤ 40000) (ha : QR w av m) :
    Calls Try.prog 12 #[.pointer (some ⟨g, 0, none⟩), v, .agg #[.int .i64 k, .int .i64 i, .int .i64 n, .int .i64 x, .int .i64 y, av]] w (HAct B w g t) := by
  by_cases k1 : k = 1
  · subst k1
    exact does_delete g t v i n x y av w h hm
  · by_cases k2 : k = 2
    · subst k2
      exact does_set g t v i n x y av w h hm
    · exact does_insert g t v k i n x y av m w h hm ha k1 k2
end Go.Proofs.Ythgfmlfgbghfbaa
