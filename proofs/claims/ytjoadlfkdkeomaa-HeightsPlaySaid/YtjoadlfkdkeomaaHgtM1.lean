/- heights: what a change of a Seq changes, sharply; a chain of none or one Seq in memory, with what it takes up. Up to 45000 heights. heights: what a chain of none or one Seq tells: by contract. Up to 45000 heights. heights: what the first heights of a chain come to, in which of them a place lies: by contract. Up to 45000 heights. heights: a height of a chain set; heights of a chain taken away: by contract. Up to 45000 heights. heights: heights of a chain taken away, put in: by contract. Up to 45000 heights. heights: heights put into a chain: by contract. Up to 45000 heights. -/
import Derived.Test.YtjoadlfkdkeomaaSeqP
import Derived.LoopN
import Derived.Deep.LoopGhost
import Derived.BigRegion
import Derived.RegionTactic
import Derived.Shelf.Abstract
import Derived.ChangeKeysEq
import Derived.Deep.DeepCutAuto
import Derived.Deep.CutBlock
import Derived.Lib.SliceRun
import Derived.Deep.AppendLies
namespace Go.Proofs.Ytjoadlfkdkeomaa
set_option linter.unusedSimpArgs false
set_option linter.unusedVariables false
set_option linter.unusedSectionVars false
open Go.RowKit
variable {B : Nat}

/-! ### a Seq, changed: what else changes -/
/-- a block of the Seq at g, as it lies in w -/
def Trk (w : World) (g b : Nat) : Prop := b = g ∨ ∃ t rv F, w.heap[g]? = some (.cells #[rv] 84) ∧ IsH w t rv F ∧ b ∈ F
/-- heights put in or taken away: the Seq's own block alone is another one -/
def QOwn (B : Nat) (w : World) (g : Nat) (t : Ht) (l : Qs) (w' : World) : Prop := (∃ t', QAt B w' g t' ∧ t'.hs = l ∧ ∀ b ∈ t'.bks, b ∈ t.bks ∨ w.heap.size ≤ b) ∧ Stays (fun b => b = g) w w'
/-- a height set: the Seq's blocks alone are others -/
def QTrk (B : Nat) (w : World) (g : Nat) (t : Ht) (l : Qs) (w' : World) : Prop := (∃ t', QAt B w' g t' ∧ t'.hs = l ∧ t'.bks = t.bks) ∧ Stays (Trk w g) w w'
theorem QOwn.same {w w' : World} {g : Nat} {t : Ht} (h : QAt B w g t) (a : AnyLater w w') : QOwn B w g t t.hs w' := ⟨⟨t, h.later a, rfl, fun _ hb => .inl hb⟩, .of a⟩
theorem QTrk.same {w w' : World} {g : Nat} {t : Ht} (h : QAt B w g t) (a : AnyLater w w') : QTrk B w g t t.hs w' := ⟨⟨t, h.later a, rfl, rfl⟩, .of a⟩
theorem QOwn.spliced {w w1 w' : World} {g : Nat} {t T : Ht} {l : Qs} {u : Value} (h : QAt B w g t) (a : AnyLater w w1) (hT : isH B T u w1) (e : T.hs = l) (fn : T.Fine) (nd : T.bks.Nodup) (bk : ∀ b ∈ T.bks, b ∈ t.bks ∨ w.heap.size ≤ b) (tl : Tls l) (lm : l.length ≤ 45000) (hs : w' = w1.setCell ⟨g, 0, none⟩ u) : QOwn B w g t l w' :=
  ⟨(QDone.spliced h a hT e fn nd bk tl lm hs).1, by subst hs; exact (Stays.of a).setCell (S := fun b => b = g) rfl u⟩
theorem QAt.mono {C : Nat} {w : World} {g : Nat} {t : Ht} (h : QAt B w g t) (hC : C ≤ B) : QAt C w g t := by
  obtain ⟨rv, hg, ht⟩ := h.obj
  exact ⟨⟨rv, hg, ht.mono hC⟩, h.ok, Nat.le_trans hC h.base⟩
theorem QAt.bks_ge {w : World} {g : Nat} {t : Ht} (h : QAt B w g t) : ∀ b ∈ t.bks, B ≤ b := fun b hb => by
  obtain ⟨rv, _, _, F, hF, hFb⟩ := h.obj
  exact hFb b (hF.rows b hb).1
theorem QAt.bksLt {w : World} {g : Nat} {t : Ht} (h : QAt B w g t) : ∀ b ∈ t.bks, b < w.heap.size := fun b hb => by
  obtain ⟨rv, _, _, F, hF, _⟩ := h.obj
  exact own_lt (hF.rows b hb).2.choose_spec
theorem QAt.gLt {w : World} {g : Nat} {t : Ht} (h : QAt B w g t) : g < w.heap.size := by
  obtain ⟨rv, hg, _⟩ := h.obj
  exact own_lt hg
set_option maxRecDepth 100000 in
set_option maxHeartbeats 1600000 in
theorem qset_yes (g : Nat) (t : Ht) (i : Nat) (x y : Int) (w : World) (h : QAt B w g t) (hi : i < t.hs.length) (hx : tlBad (x, y) = false) : Calls Try.prog 49 #[.pointer (some ⟨g, 0, none⟩), .int .i64 (i : Int), .agg #[.int .i64 x, .int .i64 y]] w fun e w' => e = .returned (.int .i64 0) ∧ QTrk B w g t (t.hs.set i (x, y)) w' := by
  have HH := Lib.hid (fun (w' : World) (a : AnyLater w w') => sqhas_any (.pointer (some ⟨g, 0, none⟩)) t (i : Int) true w' (decide_eq_true (by omega)) (h.q.nil_or.later a) h.fit)
  have HM := Lib.hid (fun (w' : World) => mayNot_any x y false w' hx)
  obtain ⟨rv, hg, hB, F, hF, hFb⟩ := h.obj
  have hne : g ∉ F := fun hgF => by
    rcases hF.kinds g hgF with ⟨cs, hc⟩ | ⟨_, cs, hc⟩
    · rw [hg] at hc; cases hc
    · rw [hg] at hc; cases hc
  have HS := Lib.hid (fun (w' : World) (a : AnyLater w w') => hset_any t h.fit h.ok.fine h.ok.rows rv F i x y w' (hF.later a) hi (tlBad_not hx))
  have HE : Hid (∀ w1 w', AnyLater w w1 → Stays (· ∈ F) w1 w' → IsH w' (t.setT i (x, y)) rv F → QTrk B w g t (t.hs.set i (x, y)) w') := Lib.hid (fun w1 w' a s ht => by
    have st : Stays (· ∈ F) w w' := (Stays.of a).trans s
    exact ⟨⟨_, ⟨⟨rv, st.own hg hne, Nat.le_trans hB st.size, F, ht, hFb⟩, h.ok.setT i (tlBad_not hx), h.base⟩, Ht.setT_hs t i (x, y), (Ht.setT_same t i (x, y)).1⟩, st.wide (fun b _ hb => .inr ⟨t, rv, F, hg, hF, hb⟩)⟩)
  obtain ⟨q, rfl⟩ := hF.ptr
  have s0_w := hg
  have r0_w := own_row hg
  have f0_w := own_free hg
  have l0_w := own_lt hg
  clear h hg hF hFb hne hx hi hB
  generalize t.hs.set i (x, y) = l2 at *
  go_enter Try.func49, Try.ntmps49
  go_wp2_with fail
  first | refine settle_wp (fun wS => AnyLater w wS ∧ wS.heap[w.heap.size]? = some (.cells #[.int .i64 x, .int .i64 y] 33)) ?_ ?_ | refine settle_calls (fun wS => AnyLater w wS ∧ wS.heap[w.heap.size]? = some (.cells #[.int .i64 x, .int .i64 y] 33)) ?_ ?_
  · refine ⟨?_, ?_⟩
    · repeat' (first | with_reducible assumption | with_reducible exact AnyLater.refl _ | with_reducible apply AnyLater.setCell | with_reducible apply AnyLater.later | with_reducible apply AnyLater.drewN | with_reducible apply AnyLater.drew | with_reducible apply AnyLater.alloc | ((try simp only [World.size_alloc, World.size_setCell, World.size_drew]); (try dsimp only); omega))
    · ((repeat (first | with_reducible assumption | ((with_reducible apply heap_new); (try simp only [World.size_alloc, World.size_setCell, World.size_drew, World.heap_drewN]); done) | ((with_reducible apply heap_new); (try simp only [World.size_alloc, World.size_setCell, World.size_drew, World.heap_drewN]); omega) | (with_reducible refine heap_old (by (try simp only [World.size_alloc, World.size_setCell, World.size_drew, World.heap_drewN]); omega) ?_) | (with_reducible refine heap_drew ?_) | (with_reducible refine heap_far (by omega) ?_) | (with_reducible apply heap_at))); all_goals rfl)
  rintro w1 ⟨b_w1, s1_w1⟩
  have a_w1 := b_w1
  have s0_w1 := any_own b_w1 s0_w
  have r0_w1 := own_row s0_w1
  have f0_w1 := own_free s0_w1
  have l0_w1 := own_lt s0_w1
  (try clear r0_w); (try clear f0_w)
  have r1_w1 := own_row s1_w1
  have f1_w1 := own_free s1_w1
  have l1_w1 := own_lt s1_w1
  have z_w1 := b_w1.below.size
  refine (HH.out _ a_w1).mono ?_
  rintro e w2 ⟨rfl, b_w2⟩
  have z_w2 := b_w2.below.size
  have a_w2 := a_w1.trans b_w2
  have s0_w2 := any_own b_w2 s0_w1
  have s1_w2 := any_own b_w2 s1_w1
  have r0_w2 := own_row s0_w2
  have f0_w2 := own_free s0_w2
  have l0_w2 := own_lt s0_w2
  have r1_w2 := own_row s1_w2
  have f1_w2 := own_free s1_w2
  have l1_w2 := own_lt s1_w2
  (try clear r0_w1); (try clear f0_w1)
  (try clear r1_w1); (try clear f1_w1)
  go_wp2_with fail
  refine (HM.out _).mono ?_
  rintro e w3 ⟨rfl, b_w3⟩
  have z_w3 := b_w3.below.size
  have a_w3 := a_w2.trans b_w3
  have s0_w3 := any_own b_w3 s0_w2
  have s1_w3 := any_own b_w3 s1_w2
  have r0_w3 := own_row s0_w3
  have f0_w3 := own_free s0_w3
  have l0_w3 := own_lt s0_w3
  have r1_w3 := own_row s1_w3
  have f1_w3 := own_free s1_w3
  have l1_w3 := own_lt s1_w3
  (try clear r0_w2); (try clear f0_w2)
  (try clear r1_w2); (try clear f1_w2)
  go_wp2_with fail
  apply wp_region_mem (6) [] (by kernel_rfl) (by kernel_rfl) (by simp)
  case hstab =>
    intro e he v x y hxy hv
    simp only [List.mem_cons, List.not_mem_nil, or_false] at he
  case hlex =>
    intro U
    have q0 := fun (v : Later (later U)) => own_row (any_own ⟨v, rfl⟩ (any_own ⟨U, rfl⟩ s0_w3))
    have q1 := fun (v : Later (later U)) => own_row (any_own ⟨v, rfl⟩ (any_own ⟨U, rfl⟩ s1_w3))
    simp only [absFrom, absOp, idx, List.map_cons, List.map_nil, List.contains_cons, List.contains_nil, Nat.reduceBEq, Bool.or_false, Bool.false_or, Bool.true_or, Bool.or_true, Bool.false_eq_true, Nat.reduceLeDiff, Nat.reduceAdd, if_false, if_true]
    repeat (go_big_quiet_step (fail))
    exact wpQuiet_nil rfl
  case hown =>
    intro e he o ho
    simp only [List.mem_cons, List.not_mem_nil, or_false] at he
  case htail =>
    intro g u hst hne
    have b_w4 : AnyLater w3 (later u) := ⟨u, rfl⟩
    generalize later u = w4 at *
    clear u
    clear hst hne
    simp only [fillAll, Act.put, List.setIfInBounds_toArray, List.set_cons_zero, List.set_cons_succ, List.drop_succ_cons, List.drop_zero]
    have z_w4 := b_w4.below.size
    have a_w4 := a_w3.trans b_w4
    have s0_w4 := any_own b_w4 s0_w3
    have s1_w4 := any_own b_w4 s1_w3
    have r0_w4 := own_row s0_w4
    have f0_w4 := own_free s0_w4
    have l0_w4 := own_lt s0_w4
    have r1_w4 := own_row s1_w4
    have f1_w4 := own_free s1_w4
    have l1_w4 := own_lt s1_w4
    (try clear r0_w3); (try clear f0_w3)
    (try clear r1_w3); (try clear f1_w3)
    go_wp2_with fail
    refine (HS.out w4 a_w4).mono ?_
    rintro e w5 ⟨rfl, st, ht⟩
    have HZ := Lib.hid (HE.out w4 w5 a_w4 st ht)
    clear st ht s0_w s0_w1 s1_w1 s0_w2 s1_w2 s0_w3 s1_w3 s0_w4 s1_w4 r0_w4 r1_w4 f0_w4 f1_w4 l0_w4 l1_w4
    go_wp2_with fail
    go_ret
    exact ⟨rfl, HZ.out⟩
/-- Set, whatever is asked -/
theorem qset_any (g : Nat) (t : Ht) (i x y : Int) (w : World) (h : QAt B w g t) : Calls Try.prog 49 #[.pointer (some ⟨g, 0, none⟩), .int .i64 i, .agg #[.int .i64 x, .int .i64 y]] w fun e w' => e = .returned (.int .i64 (setC t.hs i (x, y))) ∧ QTrk B w g t (setO t.hs i (x, y)) w' := by
  by_cases h1 : 0 ≤ i ∧ i < t.hs.length
  · cases h2 : tlBad (x, y)
    · obtain ⟨n, rfl⟩ := Int.eq_ofNat_of_zero_le h1.1
      have e1 : setC t.hs n (x, y) = 0 := by unfold setC; rw [if_neg (fun c => c h1), h2]; rfl
      have e2 : setO t.hs n (x, y) = t.hs.set n (x, y) := by unfold setO; rw [if_pos e1]; rfl
      rw [e1, e2]
      exact qset_yes g t n x y w h (by omega) h2
    · have e1 : setC t.hs i (x, y) = 5 := by unfold setC; rw [if_neg (fun c => c h1), h2]; rfl
      have e2 : setO t.hs i (x, y) = t.hs := by unfold setO; rw [if_neg (by rw [e1]; decide)]
      rw [e1, e2]
      refine (sqset_kind _ t i x y w h.q.nil_or h.fit h1 h2).mono ?_
      rintro e w' ⟨rfl, a⟩
      exact ⟨rfl, QTrk.same h a⟩
  · have e1 : setC t.hs i (x, y) = 1 := by unfold setC; rw [if_pos h1]
    have e2 : setO t.hs i (x, y) = t.hs := by unfold setO; rw [if_neg (by rw [e1]; decide)]
    rw [e1, e2]
    refine (sqset_range _ t i x y w h.q.nil_or h.fit h1).mono ?_
    rintro e w' ⟨rfl, a⟩
    exact ⟨rfl, QTrk.same h a⟩
set_option maxRecDepth 100000 in
set_option maxHeartbeats 1600000 in
theorem qins_yes (g : Nat) (u : Value) (t : Ht) (i : Nat) (m : Qs) (w : World) (h : QAt B w g t) (hi : i ≤ t.hs.length) (hu : QR w u m) (hm : t.hs.length + m.length ≤ 45000) (hk : m.any tlBad = false) : Calls Try.prog 50 #[.pointer (some ⟨g, 0, none⟩), .int .i64 (i : Int), u] w fun e w' => e = .returned (.int .i64 0) ∧ QOwn B w g t (t.hs.take i ++ m ++ t.hs.drop i) w' := by
  have hf := h.fit
  have HL := Lib.hid (fun (w' : World) (a : AnyLater w w') => sqlen_any (.pointer (some ⟨g, 0, none⟩)) t w' (h.q.nil_or.later a) hf)
  have HC := Lib.hid (fun (w' : World) (a : AnyLater w w') => tlcontains_any u 60 #[] tlBad m false w' hk (hu.later a) (by omega) (enters_of Try.func60 (by kernel_rfl) rfl) tests_mayNot)
  have HE : Hid (∀ w0 w1 u' w', AnyLater w w0 → AnyLater w0 w1 → isSpliced B w0 t (t.hs.take i ++ m ++ t.hs.drop i) u' w1 → w' = w1.setCell ⟨g, 0, none⟩ u' → QOwn B w g t (t.hs.take i ++ m ++ t.hs.drop i) w') := Lib.hid (fun w0 w1 u' w' a0 a1 ⟨T, k1, k2, k3, k4, k5⟩ e => by
    refine QOwn.spliced h (a0.trans a1) k1 k2 k3 k4 (fun b hb => (k5 b hb).imp id (fun q => Nat.le_trans a0.below.size q)) (((hf.tls.take i).append (Tls.of_any hk)).append (hf.tls.drop i)) ?_ e
    rw [List.length_append, List.length_append, List.length_take, List.length_drop]; omega)
  obtain ⟨rv, hg, ht⟩ := h.obj
  have HS := Lib.hid (fun (w' : World) (a : AnyLater w w') => hsplice_any t i i rv u m w' (isH_stays a ht) h.ok (Nat.le_refl _) hi (hu.later a) (by omega) (Tls.of_any hk))
  obtain ⟨q, rfl⟩ := ht.ptr
  obtain ⟨A, cap, rfl, -⟩ := hu.form
  have d0 : decide ((i : Int) < 0) = false := decide_eq_false (by omega)
  have d1 : decide (t.hs.length < i) = false := decide_eq_false (by omega)
  have d2 : decide ((16777216 : Int) - (t.hs.length : Int) < (m.length : Int)) = false := decide_eq_false (by omega)
  have d3 : (t.hs.length : Int) ≤ 45000 := by omega
  have s0_w := hg
  have r0_w := own_row hg
  have f0_w := own_free hg
  have l0_w := own_lt hg
  clear h hf hi hu hm hk ht hg
  generalize t.hs.take i ++ m ++ t.hs.drop i = l2 at *
  generalize t.hs.length = n at *
  generalize m.length = k at *
  go_enter Try.func50, Try.ntmps50
  go_wp2_with fail
  refine (HL.out _ (AnyLater.refl w)).mono ?_
  rintro e w1 ⟨rfl, b_w1⟩
  have z_w1 := b_w1.below.size
  have a_w1 := b_w1
  have s0_w1 := any_own b_w1 s0_w
  have r0_w1 := own_row s0_w1
  have f0_w1 := own_free s0_w1
  have l0_w1 := own_lt s0_w1
  (try clear r0_w); (try clear f0_w)
  go_wp2_with fail
  refine (HC.out _ a_w1).mono ?_
  rintro e w2 ⟨rfl, b_w2⟩
  have z_w2 := b_w2.below.size
  have a_w2 := a_w1.trans b_w2
  have s0_w2 := any_own b_w2 s0_w1
  have r0_w2 := own_row s0_w2
  have f0_w2 := own_free s0_w2
  have l0_w2 := own_lt s0_w2
  (try clear r0_w1); (try clear f0_w1)
  go_wp2_with fail
  refine (HL.out _ a_w2).mono ?_
  rintro e w3 ⟨rfl, b_w3⟩
  have z_w3 := b_w3.below.size
  have a_w3 := a_w2.trans b_w3
  have s0_w3 := any_own b_w3 s0_w2
  have r0_w3 := own_row s0_w3
  have f0_w3 := own_free s0_w3
  have l0_w3 := own_lt s0_w3
  (try clear r0_w2); (try clear f0_w2)
  go_wp2_with fail
  refine (HS.out _ a_w3).mono ?_
  rintro e w4 ⟨u4, rfl, b_w4, p4⟩
  have HZ := Lib.hid (HE.out w3 w4 u4 _ a_w3 b_w4 p4 rfl)
  obtain ⟨T, hT, -⟩ := p4
  obtain ⟨q4, rfl⟩ := hT.ptr
  have z_w4 := b_w4.below.size
  have a_w4 := a_w3.trans b_w4
  have s0_w4 := any_own b_w4 s0_w3
  have r0_w4 := own_row s0_w4
  have f0_w4 := own_free s0_w4
  have l0_w4 := own_lt s0_w4
  (try clear r0_w3); (try clear f0_w3)
  clear hT
  go_wp2_with fail
  go_ret
  exact ⟨rfl, HZ.out⟩
set_option maxRecDepth 100000 in
set_option maxHeartbeats 1600000 in
theorem qdel_yes (g : Nat) (t : Ht) (i k : Nat) (w : World) (h : QAt B w g t) (hi : i + k ≤ t.hs.length) : Calls Try.prog 64 #[.pointer (some ⟨g, 0, none⟩), .int .i64 (i : Int), .int .i64 (k : Int)] w fun e w' => e = .returned (.int .i64 0) ∧ QOwn B w g t (t.hs.take i ++ t.hs.drop (i + k)) w' := by
  have hf := h.fit
  have hm := h.ok.most
  have HL := Lib.hid (sqlen_any (.pointer (some ⟨g, 0, none⟩)) t w h.q.nil_or hf)
  have HSp := Lib.hid (fun (w' : World) => same_later (clcSpan_yes (i : Int) (k : Int) t.hs.length w' ⟨by omega, by omega, by omega, by omega⟩ (by omega)))
  have hz : t.hs.take i ++ [] ++ t.hs.drop (i + k) = t.hs.take i ++ t.hs.drop (i + k) := by rw [List.append_nil]
  have HE : Hid (∀ w0 w1 u' w', AnyLater w w0 → AnyLater w0 w1 → isSpliced B w0 t (t.hs.take i ++ [] ++ t.hs.drop (i + k)) u' w1 → w' = w1.setCell ⟨g, 0, none⟩ u' → QOwn B w g t (t.hs.take i ++ t.hs.drop (i + k)) w') := Lib.hid (fun w0 w1 u' w' a0 a1 ⟨T, k1, k2, k3, k4, k5⟩ e => by
    rw [hz] at k2
    refine QOwn.spliced h (a0.trans a1) k1 k2 k3 k4 (fun b hb => (k5 b hb).imp id (fun q => Nat.le_trans a0.below.size q)) ((hf.tls.take i).append (hf.tls.drop (i + k))) ?_ e
    rw [List.length_append, List.length_take, List.length_drop]; omega)
  obtain ⟨rv, hg, ht⟩ := h.obj
  have HS := Lib.hid (fun (w' : World) (a : AnyLater w w') => hsplice_any t i (i + k) rv (.slice none 0 0) [] w' (isH_stays a ht) h.ok (by omega) hi (QR.void w' none 0) (by simp; omega) Tls.nil)
  have hc : ((i + k : Nat) : Int) = (i : Int) + (k : Int) := by omega
  rw [hc] at HS
  obtain ⟨q, rfl⟩ := ht.ptr
  have s0_w := hg
  have r0_w := own_row hg
  have f0_w := own_free hg
  have l0_w := own_lt hg
  clear h hf hi ht hg hz hm hc
  generalize t.hs.take i ++ t.hs.drop (i + k) = l3 at *
  generalize t.hs.take i ++ [] ++ t.hs.drop (i + k) = l2 at *
  generalize t.hs.length = n at *
  go_enter Try.func64, Try.ntmps64
  go_wp2_with fail
  refine (HL.out).mono ?_
  rintro e w1 ⟨rfl, b_w1⟩
  have z_w1 := b_w1.below.size
  have a_w1 := b_w1
  have s0_w1 := any_own b_w1 s0_w
  have r0_w1 := own_row s0_w1
  have f0_w1 := own_free s0_w1
  have l0_w1 := own_lt s0_w1
  (try clear r0_w); (try clear f0_w)
  go_wp2_with fail
  refine (HSp.out _).mono ?_
  rintro e w2 ⟨rfl, b_w2⟩
  have z_w2 := b_w2.below.size
  have a_w2 := a_w1.trans b_w2
  have s0_w2 := any_own b_w2 s0_w1
  have r0_w2 := own_row s0_w2
  have f0_w2 := own_free s0_w2
  have l0_w2 := own_lt s0_w2
  (try clear r0_w1); (try clear f0_w1)
  go_wp2_with fail
  refine (HS.out _ a_w2).mono ?_
  rintro e w4 ⟨u4, rfl, b_w4, p4⟩
  have HZ := Lib.hid (HE.out w2 w4 u4 _ a_w2 b_w4 p4 rfl)
  obtain ⟨T, hT, -⟩ := p4
  obtain ⟨q4, rfl⟩ := hT.ptr
  have z_w4 := b_w4.below.size
  have a_w4 := a_w2.trans b_w4
  have s0_w4 := any_own b_w4 s0_w2
  have r0_w4 := own_row s0_w4
  have f0_w4 := own_free s0_w4
  have l0_w4 := own_lt s0_w4
  (try clear r0_w2); (try clear f0_w2)
  clear hT
  go_wp2_with fail
  go_ret
  exact ⟨rfl, HZ.out⟩

/-! ### a chain of none or one Seq -/
/-- what a chain takes up: its row, and its Seq with the tree -/
structure Cw where
  row : Option Nat
  sq : Option (Nat × Ht)
def Cw.bl (c : Cw) : List Nat := c.row.toList ++ (match c.sq with | none => [] | some (g, t) => g :: t.bks)
def ptrV (g : Nat) : Value := .pointer (some ⟨g, 0, none⟩)
/-- the chain whose parts are v: its heights are l -/
def IsCh (B : Nat) (w : World) (v : Value) (c : Cw) (l : Qs) : Prop :=
  v.ownBlock = c.row ∧ ((c.sq = none ∧ l = [] ∧ w.ownsRow B 75 1 v 0 []) ∨ ∃ g t, c.sq = some (g, t) ∧ t.hs = l ∧ QAt B w g t ∧ w.ownsRow B 75 1 v 1 [ptrV g])
/-- its blocks, as they lie in w -/
def InC (w : World) (c : Cw) (b : Nat) : Prop := c.row = some b ∨ ∃ g t, c.sq = some (g, t) ∧ Trk w g b
/-- its row, and its Seq's own block -/
def InR (c : Cw) (b : Nat) : Prop := c.row = some b ∨ ∃ g t, c.sq = some (g, t) ∧ b = g
theorem InR.inC {w : World} {c : Cw} {b : Nat} (h : InR c b) : InC w c b := by
  rcases h with h | ⟨g, t, h1, h2⟩
  · exact .inl h
  · exact .inr ⟨g, t, h1, .inl h2⟩
theorem InR.bl {c : Cw} {b : Nat} (h : InR c b) : b ∈ c.bl := by
  unfold Cw.bl
  rcases h with h | ⟨g, t, h1, rfl⟩
  · rw [h]; simp
  · rw [h1]; simp
theorem IsCh.void (w : World) : IsCh B w (.slice none 0 0) ⟨none, none⟩ [] := ⟨rfl, .inl ⟨rfl, rfl, rfl, .inl ⟨rfl, rfl⟩⟩⟩
theorem own_row_stays {S : Nat → Prop} {w w' : World} {t : TypeId} {k n : Nat} {v : Value} {xs : List Value} (h : w.ownsRow B t k v n xs) (hs : Stays S w w') (hn : ∀ b, v.ownBlock = some b → ¬ S b) : w'.ownsRow B t k v n xs := by
  refine ⟨h.1, ?_⟩
  rcases h.2 with q | ⟨g, cap, cur, rfl, h1, h2, h3⟩
  · exact .inl q
  · exact .inr ⟨g, cap, cur, rfl, h1, hs.own h2 (hn g rfl), h3⟩
theorem QAt.stays {S : Nat → Prop} {w w' : World} {g : Nat} {t : Ht} (h : QAt B w g t) (hs : Stays S w w') (hn : ∀ b, Trk w g b → ¬ S b) : QAt B w' g t := by
  obtain ⟨rv, hg, hB, F, hF, hFb⟩ := h.obj
  exact ⟨⟨rv, hs.own hg (hn g (.inl rfl)), Nat.le_trans hB hs.size, F, hF.stays hs (fun b hb => hn b (.inr ⟨t, rv, F, hg, hF, hb⟩)), hFb⟩, h.ok, h.base⟩
theorem IsCh.stays {S : Nat → Prop} {w w' : World} {v : Value} {c : Cw} {l : Qs} (h : IsCh B w v c l) (hs : Stays S w w') (hn : ∀ b, InC w c b → ¬ S b) : IsCh B w' v c l := by
  refine ⟨h.1, ?_⟩
  rcases h.2 with ⟨h1, h2, h3⟩ | ⟨g, t, h1, h2, h3, h4⟩
  · exact .inl ⟨h1, h2, own_row_stays h3 hs (fun b hb => hn b (.inl (by rw [← h.1]; exact hb)))⟩
  · exact .inr ⟨g, t, h1, h2, h3.stays hs (fun b hb => hn b (.inr ⟨g, t, h1, hb⟩)), own_row_stays h4 hs (fun b hb => hn b (.inl (by rw [← h.1]; exact hb)))⟩
theorem IsCh.later {w w' : World} {v : Value} {c : Cw} {l : Qs} (h : IsCh B w v c l) (a : AnyLater w w') : IsCh B w' v c l := h.stays (S := fun _ => False) (.of a) (fun _ _ h => h)
theorem IsCh.mono {C : Nat} {w : World} {v : Value} {c : Cw} {l : Qs} (h : IsCh B w v c l) (hC : C ≤ B) : IsCh C w v c l := by
  have hw : ∀ {n : Nat} {xs : List Value}, w.ownsRow B 75 1 v n xs → w.ownsRow C 75 1 v n xs := fun q => by
    refine ⟨q.1, ?_⟩
    rcases q.2 with q | ⟨g, cap, cur, h0, h1, h2⟩
    · exact .inl q
    · exact .inr ⟨g, cap, cur, h0, by omega, h2⟩
  refine ⟨h.1, ?_⟩
  rcases h.2 with ⟨h1, h2, h3⟩ | ⟨g, t, h1, h2, h3, h4⟩
  · exact .inl ⟨h1, h2, hw h3⟩
  · exact .inr ⟨g, t, h1, h2, h3.mono hC, hw h4⟩
/-- the row's block -/
theorem IsCh.rowAt {w : World} {v : Value} {c : Cw} {l : Qs} (h : IsCh B w v c l) {b : Nat} (hb : c.row = some b) : B ≤ b ∧ ∃ cs, w.heap[b]? = some (.cells cs 75) := by
  have key : ∀ {n : Nat} {xs : List Value}, w.ownsRow B 75 1 v n xs → B ≤ b ∧ ∃ cs, w.heap[b]? = some (.cells cs 75) := fun q => by
    rcases q.2 with ⟨rfl, _⟩ | ⟨g, cap, cur, rfl, h1, h2, h3⟩
    · rw [← h.1] at hb; cases hb
    · rw [← h.1] at hb; cases hb; exact ⟨h1, cur, h2⟩
  rcases h.2 with ⟨_, _, h3⟩ | ⟨g, t, _, _, _, h4⟩
  · exact key h3
  · exact key h4
theorem IsCh.seqAt {w : World} {v : Value} {c : Cw} {l : Qs} (h : IsCh B w v c l) {g : Nat} {t : Ht} (hb : c.sq = some (g, t)) : QAt B w g t ∧ t.hs = l := by
  rcases h.2 with ⟨h1, _⟩ | ⟨g', t', h1, h2, h3, h4⟩
  · rw [h1] at hb; cases hb
  · rw [h1] at hb; cases hb; exact ⟨h3, h2⟩
theorem IsCh.bl_in {w : World} {v : Value} {c : Cw} {l : Qs} (h : IsCh B w v c l) {b : Nat} (hb : b ∈ c.bl) : B ≤ b ∧ b < w.heap.size := by
  unfold Cw.bl at hb
  rcases List.mem_append.1 hb with hb | hb
  · obtain ⟨h1, cs, h2⟩ := h.rowAt (by simpa using hb)
    exact ⟨h1, own_lt h2⟩
  · cases hs : c.sq with
    | none => rw [hs] at hb; cases hb
    | some p =>
      obtain ⟨g, t⟩ := p
      obtain ⟨q, -⟩ := h.seqAt hs
      rw [hs] at hb
      rcases List.mem_cons.1 hb with rfl | hb
      · exact ⟨q.base, q.gLt⟩
      · exact ⟨q.bks_ge b hb, q.bksLt b hb⟩
/-- a block of a Seq: what it is -/
theorem Trk.kinds {w : World} {g b : Nat} {t : Ht} (h : QAt B w g t) (k : Trk w g b) : (b = g ∧ ∃ rv, w.heap[b]? = some (.cells #[rv] 84)) ∨ (B ≤ b ∧ ∃ cs, w.heap[b]? = some (.cells cs 119)) ∨ (b ∈ t.bks ∧ ∃ cs, w.heap[b]? = some (.cells cs 33)) := by
  obtain ⟨rv, hg, _, F, hF, hFb⟩ := h.obj
  rcases k with rfl | ⟨t', rv', F', k1, k2, k3⟩
  · exact .inl ⟨rfl, rv, hg⟩
  · rw [hg] at k1
    simp only [Option.some.injEq, Obj.cells.injEq, and_true] at k1
    obtain rfl : rv = rv' := by simpa using k1
    obtain ⟨rfl, rfl⟩ := hF.only k2
    rcases hF.kinds b k3 with q | ⟨q1, q2⟩
    · exact .inr (.inl ⟨hFb b k3, q⟩)
    · exact .inr (.inr ⟨q1, q2⟩)
theorem Trk.apart {w : World} {g g' b : Nat} {t t' : Ht} (h : QAt B w g t) (h' : QAt B w g' t') (hg : g ≠ g') (hd : ∀ x ∈ t.bks, x ∉ t'.bks) (k : Trk w g b) : ¬ Trk w g' b := by
  intro k'
  rcases k.kinds h with ⟨rfl, rv, e⟩ | ⟨_, cs, e⟩ | ⟨m, cs, e⟩
  · rcases k'.kinds h' with ⟨rfl, _⟩ | ⟨_, cs, e2⟩ | ⟨m2, cs, e2⟩
    · exact hg rfl
    · rw [e] at e2; cases e2
    · rw [e] at e2; cases e2
  · rcases k'.kinds h' with ⟨rfl, rv, e2⟩ | ⟨_, cs, e2⟩ | ⟨m2, cs, e2⟩
    · rw [e] at e2; cases e2
    · -- both are nodes
      obtain ⟨rv1, hg1, _, F1, hF1, _⟩ := h.obj
      obtain ⟨rv2, hg2, _, F2, hF2, _⟩ := h'.obj
      rcases k with rfl | ⟨t1, r1, G1, a1, a2, a3⟩
      · rw [hg1] at e; cases e
      rcases k' with rfl | ⟨t2, r2, G2, b1, b2, b3⟩
      · rw [hg2] at e2; cases e2
      rw [hg1] at a1
      rw [hg2] at b1
      simp only [Option.some.injEq, Obj.cells.injEq, and_true] at a1 b1
      obtain rfl : rv1 = r1 := by simpa using a1
      obtain rfl : rv2 = r2 := by simpa using b1
      obtain ⟨rfl, rfl⟩ := hF1.only a2
      obtain ⟨rfl, rfl⟩ := hF2.only b2
      exact hF1.apart hF2 hd b a3 b3
    · exact node_tall e e2
  · rcases k'.kinds h' with ⟨rfl, rv, e2⟩ | ⟨_, cs, e2⟩ | ⟨m2, cs, e2⟩
    · rw [e] at e2; cases e2
    · exact node_tall e2 e
    · exact hd b m m2
theorem InC.apart {w : World} {v v' : Value} {c c' : Cw} {l l' : Qs} (h : IsCh B w v c l) (h' : IsCh B w v' c' l') (hd : ∀ x ∈ c.bl, x ∉ c'.bl) {b : Nat} (k : InC w c b) : ¬ InC w c' b := by
  intro k'
  rcases k with k | ⟨g, t, k1, k2⟩
  · obtain ⟨_, cs, e⟩ := h.rowAt k
    rcases k' with k' | ⟨g', t', k3, k4⟩
    · exact hd b (InR.bl (.inl k)) (InR.bl (.inl k'))
    · rcases k4.kinds (h'.seqAt k3).1 with ⟨_, rv, e2⟩ | ⟨_, cs, e2⟩ | ⟨_, cs, e2⟩
      · rw [e] at e2; cases e2
      · rw [e] at e2; cases e2
      · rw [e] at e2; cases e2
  · rcases k' with k' | ⟨g', t', k3, k4⟩
    · obtain ⟨_, cs, e⟩ := h'.rowAt k'
      rcases k2.kinds (h.seqAt k1).1 with ⟨_, rv, e2⟩ | ⟨_, cs, e2⟩ | ⟨_, cs, e2⟩
      · rw [e] at e2; cases e2
      · rw [e] at e2; cases e2
      · rw [e] at e2; cases e2
    · refine k2.apart (h.seqAt k1).1 (h'.seqAt k3).1 (fun e => ?_) (fun x hx hx' => ?_) k4
      · subst e
        exact hd g (InR.bl (.inr ⟨g, t, k1, rfl⟩)) (InR.bl (.inr ⟨g, t', k3, rfl⟩))
      · refine hd x ?_ ?_
        · unfold Cw.bl; rw [k1]; simp [hx]
        · unfold Cw.bl; rw [k3]; simp [hx']
/-- blocks of a chain: what they are -/
theorem InC.kinds {w : World} {v : Value} {c : Cw} {l : Qs} (h : IsCh B w v c l) {b : Nat} (k : InC w c b) : B ≤ b ∧ (b ∈ c.bl ∨ ∃ cs, w.heap[b]? = some (.cells cs 119)) := by
  rcases k with k | ⟨g, t, k1, k2⟩
  · exact ⟨(h.rowAt k).1, .inl (InR.bl (.inl k))⟩
  · have q := (h.seqAt k1).1
    rcases k2.kinds q with ⟨rfl, _⟩ | ⟨h1, h2⟩ | ⟨m, _⟩
    · exact ⟨q.base, .inl (InR.bl (.inr ⟨b, t, k1, rfl⟩))⟩
    · exact ⟨h1, .inr h2⟩
    · exact ⟨q.bks_ge b m, .inl (by unfold Cw.bl; rw [k1]; simp [m])⟩
theorem IsCh.tls {w : World} {v : Value} {c : Cw} {l : Qs} (h : IsCh B w v c l) : Tls l ∧ l.length ≤ 45000 := by
  rcases h.2 with ⟨_, rfl, _⟩ | ⟨g, t, _, rfl, q, _⟩
  · exact ⟨Tls.nil, by simp⟩
  · exact ⟨q.ok.tls, q.ok.most⟩
end Go.Proofs.Ytjoadlfkdkeomaa
namespace Go.Proofs.Ytjoadlfkdkeomaa
set_option linter.unusedSimpArgs false
set_option linter.unusedVariables false
set_option linter.unusedSectionVars false
open Go.RowKit
variable {B : Nat}

/-! ### as the walk sees a chain -/
theorem IsCh.none_form {w : World} {v : Value} {c : Cw} {l : Qs} (h : IsCh B w v c l) (hs : c.sq = none) : l = [] ∧ ∃ A cap, v = .slice A 0 cap := by
  rcases h.2 with ⟨_, h2, h3⟩ | ⟨g, t, h1, _⟩
  · refine ⟨h2, ?_⟩
    rcases h3.2 with ⟨rfl, _⟩ | ⟨b, cap, cur, rfl, _⟩
    · exact ⟨_, _, rfl⟩
    · exact ⟨_, _, rfl⟩
  · rw [hs] at h1; cases h1
theorem IsCh.one_form {w : World} {v : Value} {c : Cw} {l : Qs} (h : IsCh B w v c l) {g : Nat} {t : Ht} (hs : c.sq = some (g, t)) : ∃ b cap cur, v = .slice (some ⟨b, 0, none⟩) 1 cap ∧ c.row = some b ∧ B ≤ b ∧ w.heap[b]? = some (.cells cur 75) ∧ cur[0]? = some (ptrV g) ∧ 1 ≤ cap ∧ cap ≤ maxLen ∧ cur.size = cap := by
  rcases h.2 with ⟨h1, _⟩ | ⟨g', t', h1, h2, h3, h4⟩
  · rw [hs] at h1; cases h1
  · rw [hs] at h1
    cases h1
    rcases h4.2 with ⟨_, e⟩ | ⟨b, cap, cur, rfl, k1, k2, k3, k4, k5, k6⟩
    · cases e
    · refine ⟨b, cap, cur, rfl, h.1.symm, k1, k2, ?_, k3, k4, by omega⟩
      have e : (cur.toList.take (1 * 1))[0]? = [ptrV g][0]? := by rw [k6]
      rw [List.getElem?_take_of_lt (by omega), Array.getElem?_toList] at e
      rw [e]; rfl
/-- the row of a chain that has one Seq, and the Seq -/
structure ChOne (B : Nat) (w : World) (b g : Nat) (t : Ht) : Prop where
  cell : w.cell? ⟨b, 0, none⟩ = some (.pointer (some ⟨g, 0, none⟩))
  lt : b < w.heap.size
  q : QAt B w g t
theorem ChOne.later {w w' : World} {b g : Nat} {t : Ht} (h : ChOne B w b g t) (a : AnyLater w w') : ChOne B w' b g t := ⟨(a.below.cell h.lt).trans h.cell, Nat.lt_of_lt_of_le h.lt a.below.size, h.q.later a⟩
theorem IsCh.one {w : World} {v : Value} {c : Cw} {l : Qs} (h : IsCh B w v c l) {g : Nat} {t : Ht} (hs : c.sq = some (g, t)) : ∃ b cap, v = .slice (some ⟨b, 0, none⟩) 1 cap ∧ ChOne B w b g t ∧ t.hs = l := by
  obtain ⟨b, cap, cur, e, _, _, k1, k2, _⟩ := h.one_form hs
  exact ⟨b, cap, e, ⟨by rw [own_row k1]; exact k2, own_lt k1, (h.seqAt hs).1⟩, (h.seqAt hs).2⟩
theorem IsCh.cases {w : World} {v : Value} {c : Cw} {l : Qs} (h : IsCh B w v c l) : (c.sq = none ∧ l = [] ∧ ∃ A cap, v = .slice A 0 cap) ∨ ∃ b cap g t, c.sq = some (g, t) ∧ v = .slice (some ⟨b, 0, none⟩) 1 cap ∧ ChOne B w b g t ∧ t.hs = l := by
  cases hs : c.sq with
  | none => exact .inl ⟨rfl, h.none_form hs⟩
  | some p =>
    obtain ⟨g, t⟩ := p
    obtain ⟨b, cap, e, k, e2⟩ := h.one hs
    exact .inr ⟨b, cap, g, t, rfl, e, k, e2⟩

/-! ### how many -/
theorem hgsize_none (A : Option Addr) (cap : Nat) (w : World) : Calls Try.prog 34 #[.agg #[.slice A 0 cap]] w fun e w' => e = .returned (.int .i64 0) ∧ AnyLater w w' := by
  go_enter Try.func34, Try.ntmps34
  go_wp2_with fail
  refine wp_loop_rounds 1 ?_
  rw [rounds_succ]
  go_wp2_with fail
  go_ret
  exact ⟨rfl, by repeat' (first | with_reducible assumption | with_reducible exact AnyLater.refl _ | with_reducible apply AnyLater.setCell | with_reducible apply AnyLater.later | with_reducible apply AnyLater.drewN | with_reducible apply AnyLater.drew | with_reducible apply AnyLater.alloc | ((try simp only [World.size_alloc, World.size_setCell, World.size_drew]); (try dsimp only); omega))⟩
theorem hgsize_one (b cap g : Nat) (t : Ht) (w : World) (h : ChOne B w b g t) : Calls Try.prog 34 #[.agg #[.slice (some ⟨b, 0, none⟩) 1 cap]] w fun e w' => e = .returned (.int .i64 (t.hs.length : Int)) ∧ AnyLater w w' := by
  have HL := Lib.hid (fun (w' : World) (a : AnyLater w w') => sqlen_any (.pointer (some ⟨g, 0, none⟩)) t w' (h.q.q.nil_or.later a) h.q.fit)
  have hm := h.q.ok.most
  have HC := Lib.hid h
  clear h
  generalize t.hs.length = n at *
  go_enter Try.func34, Try.ntmps34
  go_wp2_with fail
  first | refine settle_wp (fun wS => AnyLater w wS ∧ wS.heap[w.heap.size]? = some (.cells #[.slice (some ⟨b, 0, none⟩) 1 cap] 68)) ?_ ?_ | refine settle_calls (fun wS => AnyLater w wS ∧ wS.heap[w.heap.size]? = some (.cells #[.slice (some ⟨b, 0, none⟩) 1 cap] 68)) ?_ ?_
  · refine ⟨?_, ?_⟩
    · repeat' (first | with_reducible assumption | with_reducible exact AnyLater.refl _ | with_reducible apply AnyLater.setCell | with_reducible apply AnyLater.later | with_reducible apply AnyLater.drewN | with_reducible apply AnyLater.drew | with_reducible apply AnyLater.alloc | ((try simp only [World.size_alloc, World.size_setCell, World.size_drew]); (try dsimp only); omega))
    · ((repeat (first | with_reducible assumption | ((with_reducible apply heap_new); (try simp only [World.size_alloc, World.size_setCell, World.size_drew, World.heap_drewN]); done) | ((with_reducible apply heap_new); (try simp only [World.size_alloc, World.size_setCell, World.size_drew, World.heap_drewN]); omega) | (with_reducible refine heap_old (by (try simp only [World.size_alloc, World.size_setCell, World.size_drew, World.heap_drewN]); omega) ?_) | (with_reducible refine heap_drew ?_) | (with_reducible refine heap_far (by omega) ?_) | (with_reducible apply heap_at))); all_goals rfl)
  rintro w1 ⟨b_w1, s0_w1⟩
  have a_w1 := b_w1
  have r0_w1 := own_row s0_w1
  have f0_w1 := own_free s0_w1
  have l0_w1 := own_lt s0_w1
  have z_w1 := b_w1.below.size
  have c1 := (HC.out.later a_w1).cell
  refine wp_loop_rounds 2 ?_
  rw [rounds_succ]
  go_wp2_with fail
  refine (HL.out _ a_w1).mono ?_
  rintro e w2 ⟨rfl, b_w2⟩
  have z_w2 := b_w2.below.size
  have a_w2 := a_w1.trans b_w2
  have s0_w2 := any_own b_w2 s0_w1
  have r0_w2 := own_row s0_w2
  have f0_w2 := own_free s0_w2
  have l0_w2 := own_lt s0_w2
  (try clear r0_w1); (try clear f0_w1)
  go_wp2_with fail
  rw [rounds_succ]
  go_wp2_with fail
  go_ret
  exact ⟨by go_num, a_w2⟩
theorem hgsize_any (v : Value) (c : Cw) (l : Qs) (w : World) (h : IsCh B w v c l) : Calls Try.prog 34 #[.agg #[v]] w fun e w' => e = .returned (.int .i64 (l.length : Int)) ∧ AnyLater w w' := by
  rcases h.cases with ⟨_, rfl, A, cap, rfl⟩ | ⟨b, cap, g, t, _, rfl, k, rfl⟩
  · exact hgsize_none A cap w
  · exact hgsize_one b cap g t w k

/-! ### in which Seq -/
theorem hgwithin_none (A : Option Addr) (cap : Nat) (i : Int) (w : World) : Calls Try.prog 45 #[.agg #[.slice A 0 cap], .int .i64 i] w fun e w' => e = .returned (.tuple #[.pointer none, .int .i64 0]) ∧ AnyLater w w' := by
  go_enter Try.func45, Try.ntmps45
  go_wp2_with fail
  refine wp_loop_rounds 1 ?_
  rw [rounds_succ]
  go_wp2_with fail
  refine bodyPost_ret (v := .tuple #[.pointer none, .int .i64 0]) (by simp [results, Try.results45, go_sem]) rfl ⟨rfl, ?_⟩
  repeat' (first | with_reducible assumption | with_reducible exact AnyLater.refl _ | with_reducible apply AnyLater.setCell | with_reducible apply AnyLater.later | with_reducible apply AnyLater.drewN | with_reducible apply AnyLater.drew | with_reducible apply AnyLater.alloc | ((try simp only [World.size_alloc, World.size_setCell, World.size_drew]); (try dsimp only); omega))
theorem hgwithin_in (b cap g : Nat) (t : Ht) (i : Int) (w : World) (h : ChOne B w b g t) (hi : i < t.hs.length) : Calls Try.prog 45 #[.agg #[.slice (some ⟨b, 0, none⟩) 1 cap], .int .i64 i] w fun e w' => e = .returned (.tuple #[.pointer (some ⟨g, 0, none⟩), .int .i64 i]) ∧ AnyLater w w' := by
  have HL := Lib.hid (fun (w' : World) (a : AnyLater w w') => sqlen_any (.pointer (some ⟨g, 0, none⟩)) t w' (h.q.q.nil_or.later a) h.q.fit)
  have HC := Lib.hid h
  clear h
  generalize t.hs.length = n at *
  go_enter Try.func45, Try.ntmps45
  go_wp2_with fail
  first | refine settle_wp (fun wS => AnyLater w wS ∧ wS.heap[w.heap.size]? = some (.cells #[.slice (some ⟨b, 0, none⟩) 1 cap] 68)) ?_ ?_ | refine settle_calls (fun wS => AnyLater w wS ∧ wS.heap[w.heap.size]? = some (.cells #[.slice (some ⟨b, 0, none⟩) 1 cap] 68)) ?_ ?_
  · refine ⟨?_, ?_⟩
    · repeat' (first | with_reducible assumption | with_reducible exact AnyLater.refl _ | with_reducible apply AnyLater.setCell | with_reducible apply AnyLater.later | with_reducible apply AnyLater.drewN | with_reducible apply AnyLater.drew | with_reducible apply AnyLater.alloc | ((try simp only [World.size_alloc, World.size_setCell, World.size_drew]); (try dsimp only); omega))
    · ((repeat (first | with_reducible assumption | ((with_reducible apply heap_new); (try simp only [World.size_alloc, World.size_setCell, World.size_drew, World.heap_drewN]); done) | ((with_reducible apply heap_new); (try simp only [World.size_alloc, World.size_setCell, World.size_drew, World.heap_drewN]); omega) | (with_reducible refine heap_old (by (try simp only [World.size_alloc, World.size_setCell, World.size_drew, World.heap_drewN]); omega) ?_) | (with_reducible refine heap_drew ?_) | (with_reducible refine heap_far (by omega) ?_) | (with_reducible apply heap_at))); all_goals rfl)
  rintro w1 ⟨b_w1, s0_w1⟩
  have a_w1 := b_w1
  have r0_w1 := own_row s0_w1
  have f0_w1 := own_free s0_w1
  have l0_w1 := own_lt s0_w1
  have z_w1 := b_w1.below.size
  have c1 := (HC.out.later a_w1).cell
  refine wp_loop_rounds 2 ?_
  rw [rounds_succ]
  go_wp2_with fail
  refine (HL.out _ a_w1).mono ?_
  rintro e w2 ⟨rfl, b_w2⟩
  have z_w2 := b_w2.below.size
  have a_w2 := a_w1.trans b_w2
  have s0_w2 := any_own b_w2 s0_w1
  have r0_w2 := own_row s0_w2
  have f0_w2 := own_free s0_w2
  have l0_w2 := own_lt s0_w2
  (try clear r0_w1); (try clear f0_w1)
  go_wp2_with fail
  refine bodyPost_ret (v := .tuple #[.pointer (some ⟨g, 0, none⟩), .int .i64 i]) (by simp [results, Try.results45, go_sem]) rfl ⟨rfl, ?_⟩
  exact a_w2
theorem hgwithin_out (b cap g : Nat) (t : Ht) (i : Int) (w : World) (h : ChOne B w b g t) (hi : ¬ i < t.hs.length) : Calls Try.prog 45 #[.agg #[.slice (some ⟨b, 0, none⟩) 1 cap], .int .i64 i] w fun e w' => e = .returned (.tuple #[.pointer none, .int .i64 0]) ∧ AnyLater w w' := by
  have HL := Lib.hid (fun (w' : World) (a : AnyLater w w') => sqlen_any (.pointer (some ⟨g, 0, none⟩)) t w' (h.q.q.nil_or.later a) h.q.fit)
  have hm := h.q.ok.most
  have HC := Lib.hid h
  clear h
  generalize t.hs.length = n at *
  have d0 : decide (i < (n : Int)) = false := decide_eq_false hi
  go_enter Try.func45, Try.ntmps45
  go_wp2_with fail
  first | refine settle_wp (fun wS => AnyLater w wS ∧ wS.heap[w.heap.size]? = some (.cells #[.slice (some ⟨b, 0, none⟩) 1 cap] 68)) ?_ ?_ | refine settle_calls (fun wS => AnyLater w wS ∧ wS.heap[w.heap.size]? = some (.cells #[.slice (some ⟨b, 0, none⟩) 1 cap] 68)) ?_ ?_
  · refine ⟨?_, ?_⟩
    · repeat' (first | with_reducible assumption | with_reducible exact AnyLater.refl _ | with_reducible apply AnyLater.setCell | with_reducible apply AnyLater.later | with_reducible apply AnyLater.drewN | with_reducible apply AnyLater.drew | with_reducible apply AnyLater.alloc | ((try simp only [World.size_alloc, World.size_setCell, World.size_drew]); (try dsimp only); omega))
    · ((repeat (first | with_reducible assumption | ((with_reducible apply heap_new); (try simp only [World.size_alloc, World.size_setCell, World.size_drew, World.heap_drewN]); done) | ((with_reducible apply heap_new); (try simp only [World.size_alloc, World.size_setCell, World.size_drew, World.heap_drewN]); omega) | (with_reducible refine heap_old (by (try simp only [World.size_alloc, World.size_setCell, World.size_drew, World.heap_drewN]); omega) ?_) | (with_reducible refine heap_drew ?_) | (with_reducible refine heap_far (by omega) ?_) | (with_reducible apply heap_at))); all_goals rfl)
  rintro w1 ⟨b_w1, s0_w1⟩
  have a_w1 := b_w1
  have r0_w1 := own_row s0_w1
  have f0_w1 := own_free s0_w1
  have l0_w1 := own_lt s0_w1
  have z_w1 := b_w1.below.size
  have c1 := (HC.out.later a_w1).cell
  refine wp_loop_rounds 2 ?_
  rw [rounds_succ]
  go_wp2_with fail
  refine (HL.out _ a_w1).mono ?_
  rintro e w2 ⟨rfl, b_w2⟩
  have z_w2 := b_w2.below.size
  have a_w2 := a_w1.trans b_w2
  have s0_w2 := any_own b_w2 s0_w1
  have r0_w2 := own_row s0_w2
  have f0_w2 := own_free s0_w2
  have l0_w2 := own_lt s0_w2
  (try clear r0_w1); (try clear f0_w1)
  go_wp2_with fail
  refine (HL.out _ a_w2).mono ?_
  rintro e w3 ⟨rfl, b_w3⟩
  have z_w3 := b_w3.below.size
  have a_w3 := a_w2.trans b_w3
  have s0_w3 := any_own b_w3 s0_w2
  have r0_w3 := own_row s0_w3
  have f0_w3 := own_free s0_w3
  have l0_w3 := own_lt s0_w3
  (try clear r0_w2); (try clear f0_w2)
  go_wp2_with fail
  rw [rounds_succ]
  go_wp2_with fail
  refine bodyPost_ret (v := .tuple #[.pointer none, .int .i64 0]) (by simp [results, Try.results45, go_sem]) rfl ⟨rfl, ?_⟩
  exact a_w3
/-- the Seq of a chain in which the i-th height lies, and which one of it that is -/
def wiV (c : Cw) (i : Int) : Value := match c.sq with
  | none => .tuple #[.pointer none, .int .i64 0]
  | some (g, t) => if i < t.hs.length then .tuple #[.pointer (some ⟨g, 0, none⟩), .int .i64 i] else .tuple #[.pointer none, .int .i64 0]
theorem hgwithin_any (v : Value) (c : Cw) (l : Qs) (i : Int) (w : World) (h : IsCh B w v c l) : Calls Try.prog 45 #[.agg #[v], .int .i64 i] w fun e w' => e = .returned (wiV c i) ∧ AnyLater w w' := by
  unfold wiV
  rcases h.cases with ⟨hs, rfl, A, cap, rfl⟩ | ⟨b, cap, g, t, hs, rfl, k, rfl⟩
  · rw [hs]; exact hgwithin_none A cap i w
  · rw [hs]
    by_cases hi : i < t.hs.length
    · simp only [hi, if_true]; exact hgwithin_in b cap g t i w k hi
    · simp only [hi, if_false]; exact hgwithin_out b cap g t i w k hi
/-- what lies behind within: the Seq that it tells is nil, or the chain's -/
theorem IsCh.wi {w : World} {v : Value} {c : Cw} {l : Qs} (h : IsCh B w v c l) (i : Int) : (wiV c i = .tuple #[.pointer none, .int .i64 0] ∧ ¬ (0 ≤ i ∧ i < l.length)) ∨ ∃ g t, c.sq = some (g, t) ∧ wiV c i = .tuple #[.pointer (some ⟨g, 0, none⟩), .int .i64 i] ∧ QAt B w g t ∧ t.hs = l ∧ i < l.length := by
  unfold wiV
  rcases h.cases with ⟨hs, rfl, A, cap, rfl⟩ | ⟨b, cap, g, t, hs, rfl, k, rfl⟩
  · rw [hs]; exact .inl ⟨rfl, by simp only [List.length_nil]; omega⟩
  · rw [hs]
    by_cases hi : i < t.hs.length
    · exact .inr ⟨g, t, rfl, by simp only [hi, if_true], k.q, rfl, hi⟩
    · exact .inl ⟨by simp only [hi, if_false], by omega⟩
theorem getV_none {l : Qs} {i : Int} (h : ¬ (0 ≤ i ∧ i < l.length)) : getV l i = .tuple #[.agg #[.int .i64 0, .int .i64 0], .bool false] := by unfold getV; rw [dif_neg h]
theorem getV_tuple (l : Qs) (i : Int) : ∃ a b ok, getV l i = .tuple #[.agg #[.int .i64 a, .int .i64 b], .bool ok] := by
  unfold getV
  split
  · exact ⟨_, _, _, rfl⟩
  · exact ⟨_, _, _, rfl⟩

/-! ### the i-th -/
set_option maxRecDepth 100000 in
theorem hgget_step (v pv : Value) (i k a b : Int) (ok : Bool) (w : World)
    (HW : ∀ w', AnyLater w w' → Calls Try.prog 45 #[.agg #[v], .int .i64 i] w' fun e w'' => e = .returned (.tuple #[pv, .int .i64 k]) ∧ AnyLater w' w'')
    (HG : ∀ w', AnyLater w w' → Calls Try.prog 46 #[pv, .int .i64 k] w' fun e w'' => e = .returned (.tuple #[.agg #[.int .i64 a, .int .i64 b], .bool ok]) ∧ AnyLater w' w'')
    (hp : ∃ q, pv = .pointer q) (hv : ∃ A n cap, v = .slice A n cap) :
    Calls Try.prog 35 #[.agg #[v], .int .i64 i] w fun e w' => e = .returned (.tuple #[.agg #[.int .i64 a, .int .i64 b], .bool ok]) ∧ AnyLater w w' := by
  have HW := Lib.hid HW
  have HG := Lib.hid HG
  obtain ⟨q, rfl⟩ := hp
  obtain ⟨A, n, cap, rfl⟩ := hv
  go_enter Try.func35, Try.ntmps35
  go_wp2_with fail
  first | refine settle_wp (fun wS => AnyLater w wS ∧ wS.heap[w.heap.size]? = some (.cells #[.slice A n cap] 68) ∧ wS.heap[w.heap.size + 1]? = some (.cells #[.int .i64 0, .int .i64 0] 33)) ?_ ?_ | refine settle_calls (fun wS => AnyLater w wS ∧ wS.heap[w.heap.size]? = some (.cells #[.slice A n cap] 68) ∧ wS.heap[w.heap.size + 1]? = some (.cells #[.int .i64 0, .int .i64 0] 33)) ?_ ?_
  · refine ⟨?_, ?_, ?_⟩
    · repeat' (first | with_reducible assumption | with_reducible exact AnyLater.refl _ | with_reducible apply AnyLater.setCell | with_reducible apply AnyLater.later | with_reducible apply AnyLater.drewN | with_reducible apply AnyLater.drew | with_reducible apply AnyLater.alloc | ((try simp only [World.size_alloc, World.size_setCell, World.size_drew]); (try dsimp only); omega))
    · ((repeat (first | with_reducible assumption | ((with_reducible apply heap_new); (try simp only [World.size_alloc, World.size_setCell, World.size_drew, World.heap_drewN]); done) | ((with_reducible apply heap_new); (try simp only [World.size_alloc, World.size_setCell, World.size_drew, World.heap_drewN]); omega) | (with_reducible refine heap_old (by (try simp only [World.size_alloc, World.size_setCell, World.size_drew, World.heap_drewN]); omega) ?_) | (with_reducible refine heap_drew ?_) | (with_reducible refine heap_far (by omega) ?_) | (with_reducible apply heap_at))); all_goals rfl)
    · ((repeat (first | with_reducible assumption | ((with_reducible apply heap_new); (try simp only [World.size_alloc, World.size_setCell, World.size_drew, World.heap_drewN]); done) | ((with_reducible apply heap_new); (try simp only [World.size_alloc, World.size_setCell, World.size_drew, World.heap_drewN]); omega) | (with_reducible refine heap_old (by (try simp only [World.size_alloc, World.size_setCell, World.size_drew, World.heap_drewN]); omega) ?_) | (with_reducible refine heap_drew ?_) | (with_reducible refine heap_far (by omega) ?_) | (with_reducible apply heap_at))); all_goals rfl)
  rintro w1 ⟨b_w1, s0_w1, s1_w1⟩
  have a_w1 := b_w1
  have r0_w1 := own_row s0_w1
  have f0_w1 := own_free s0_w1
  have l0_w1 := own_lt s0_w1
  have r1_w1 := own_row s1_w1
  have f1_w1 := own_free s1_w1
  have l1_w1 := own_lt s1_w1
  have z_w1 := b_w1.below.size
  refine (HW.out _ a_w1).mono ?_
  rintro e w2 ⟨rfl, b_w2⟩
  have z_w2 := b_w2.below.size
  have a_w2 := a_w1.trans b_w2
  have s0_w2 := any_own b_w2 s0_w1
  have s1_w2 := any_own b_w2 s1_w1
  have r0_w2 := own_row s0_w2
  have f0_w2 := own_free s0_w2
  have l0_w2 := own_lt s0_w2
  have r1_w2 := own_row s1_w2
  have f1_w2 := own_free s1_w2
  have l1_w2 := own_lt s1_w2
  (try clear r0_w1); (try clear f0_w1)
  (try clear r1_w1); (try clear f1_w1)
  go_wp2_with fail
  refine (HG.out _ a_w2).mono ?_
  rintro e w3 ⟨rfl, b_w3⟩
  have z_w3 := b_w3.below.size
  have a_w3 := a_w2.trans b_w3
  have s0_w3 := any_own b_w3 s0_w2
  have s1_w3 := any_own b_w3 s1_w2
  have r0_w3 := own_row s0_w3
  have f0_w3 := own_free s0_w3
  have l0_w3 := own_lt s0_w3
  have r1_w3 := own_row s1_w3
  have f1_w3 := own_free s1_w3
  have l1_w3 := own_lt s1_w3
  (try clear r0_w2); (try clear f0_w2)
  (try clear r1_w2); (try clear f1_w2)
  go_wp2_with fail
  refine bodyPost_ret (v := .tuple #[.agg #[.int .i64 a, .int .i64 b], .bool ok]) (by simp [results, Try.results35, go_sem, *]) rfl ⟨rfl, ?_⟩
  repeat' (first | with_reducible assumption | with_reducible exact AnyLater.refl _ | with_reducible apply AnyLater.setCell | with_reducible apply AnyLater.later | with_reducible apply AnyLater.drewN | with_reducible apply AnyLater.drew | with_reducible apply AnyLater.alloc | ((try simp only [World.size_alloc, World.size_setCell, World.size_drew]); (try dsimp only); omega))
theorem IsCh.slc {w : World} {v : Value} {c : Cw} {l : Qs} (h : IsCh B w v c l) : ∃ A n cap, v = .slice A n cap := by
  rcases h.cases with ⟨hs, rfl, A, cap, rfl⟩ | ⟨b, cap, g, t, hs, rfl, k, rfl⟩
  · exact ⟨_, _, _, rfl⟩
  · exact ⟨_, _, _, rfl⟩
theorem hgget_any (v : Value) (c : Cw) (l : Qs) (i : Int) (w : World) (r : Value) (hr : getV l i = r) (h : IsCh B w v c l) : Calls Try.prog 35 #[.agg #[v], .int .i64 i] w fun e w' => e = .returned r ∧ AnyLater w w' := by
  subst hr
  rcases h.wi i with ⟨e, hn⟩ | ⟨g, t, hs, e, q, rfl, hi⟩
  · rw [getV_none hn]
    exact hgget_step v (.pointer none) i 0 0 0 false w (fun w' a => by rw [← e]; exact hgwithin_any v c l i w' (h.later a)) (fun w' a => sqget_any (.pointer none) .nil 0 w' _ (getV_none (by simp [Ht.hs])) (.inl ⟨rfl, rfl⟩) Ht.Fit.nil) ⟨_, rfl⟩ h.slc
  · obtain ⟨x, y, ok, e2⟩ := getV_tuple t.hs i
    rw [e2]
    exact hgget_step v (.pointer (some ⟨g, 0, none⟩)) i i x y ok w (fun w' a => by rw [← e]; exact hgwithin_any v c _ i w' (h.later a)) (fun w' a => sqget_any _ t i w' _ e2 (q.q.nil_or.later a) q.fit) ⟨_, rfl⟩ h.slc
end Go.Proofs.Ytjoadlfkdkeomaa
namespace Go.Proofs.Ytjoadlfkdkeomaa
set_option linter.unusedSimpArgs false
set_option linter.unusedVariables false
set_option linter.unusedSectionVars false
open Go.RowKit
variable {B : Nat}

theorem hrun_min {P : Program} (w : World) (ts : Array TypeId) (t : TypeId) (p q : Int) : (Builtin.min_ ts t #[.int .i64 p, .int .i64 q]).run P w = .ok (.int .i64 (min p q)) w := by
  rw [run_min_int2]
  split
  · rw [Int.min_eq_right (by omega)]
  · rw [Int.min_eq_left (by omega)]
theorem hrun_max {P : Program} (w : World) (ts : Array TypeId) (t : TypeId) (p q : Int) : (Builtin.max_ ts t #[.int .i64 p, .int .i64 q]).run P w = .ok (.int .i64 (max p q)) w := by
  rw [run_max_int2]
  split
  · rw [Int.max_eq_right (by omega)]
  · rw [Int.max_eq_left (by omega)]

theorem hfield1 (a b : Int) (w : World) : (Instr.field 33 (.agg #[.int .i64 a, .int .i64 b]) 1).run Try.prog w = .ok (.int .i64 b) w := by kernel_rfl

/-! ### what the first ones come to -/
set_option maxRecDepth 100000 in
theorem hgsum_none (A : Option Addr) (cap : Nat) (i : Int) (w : World) : Calls Try.prog 37 #[.agg #[.slice A 0 cap], .int .i64 i] w fun e w' => e = .returned (.agg #[.int .i64 0, .int .i64 0]) ∧ AnyLater w w' := by
  go_enter Try.func37, Try.ntmps37
  go_wp2_with fail
  refine wp_loop_rounds 1 ?_
  rw [rounds_succ]
  go_wp2_with fail
  refine bodyPost_ret (v := .agg #[.int .i64 0, .int .i64 0]) (by simp [results, Try.results37, go_sem, *]) rfl ⟨rfl, ?_⟩
  repeat' (first | with_reducible assumption | with_reducible exact AnyLater.refl _ | with_reducible apply AnyLater.setCell | with_reducible apply AnyLater.later | with_reducible apply AnyLater.drewN | with_reducible apply AnyLater.drew | with_reducible apply AnyLater.alloc | ((try simp only [World.size_alloc, World.size_setCell, World.size_drew]); (try dsimp only); omega))
set_option maxRecDepth 100000 in
theorem hgsum_one (b cap g : Nat) (t : Ht) (i : Int) (w : World) (R Hh : Int) (hR : tlR (t.hs.take (sumN t.hs i)) = R) (hH : tlH (t.hs.take (sumN t.hs i)) = Hh) (h : ChOne B w b g t) : Calls Try.prog 37 #[.agg #[.slice (some ⟨b, 0, none⟩) 1 cap], .int .i64 i] w fun e w' => e = .returned (.agg #[.int .i64 R, .int .i64 Hh]) ∧ AnyLater w w' := by
  have hb := h.q.ok.tls.bound (by have := h.q.ok.most; omega) (sumN t.hs i)
  rw [hR, hH] at hb
  have HS := Lib.hid (fun (w' : World) (a : AnyLater w w') => sqsum_any (.pointer (some ⟨g, 0, none⟩)) t i w' R Hh hR hH (h.q.q.nil_or.later a) h.q.fit)
  have HL := Lib.hid (fun (w' : World) (a : AnyLater w w') => sqlen_any (.pointer (some ⟨g, 0, none⟩)) t w' (h.q.q.nil_or.later a) h.q.fit)
  have hm := h.q.ok.most
  have HC := Lib.hid h
  obtain ⟨⟨b1, b2⟩, b3, b4⟩ := hb
  clear h hR hH
  generalize t.hs.length = n at *
  obtain ⟨z, hz⟩ : ∃ z, min i (n : Int) = z := ⟨_, rfl⟩
  have hmn : ∀ (w : World) (ts : Array TypeId) (ty : TypeId), (Builtin.min_ ts ty #[.int .i64 i, .int .i64 (n : Int)]).run Try.prog w = .ok (.int .i64 z) w := fun w ts ty => by rw [hrun_min, hz]
  clear hz
  go_enter Try.func37, Try.ntmps37
  go_wp2_with fail
  first | refine settle_wp (fun wS => AnyLater w wS ∧ wS.heap[w.heap.size]? = some (.cells #[.slice (some ⟨b, 0, none⟩) 1 cap] 68) ∧ wS.heap[w.heap.size + 1]? = some (.cells #[.int .i64 0, .int .i64 0] 33) ∧ wS.heap[w.heap.size + 2]? = some (.cells #[.int .i64 0, .int .i64 0] 33)) ?_ ?_ | refine settle_calls (fun wS => AnyLater w wS ∧ wS.heap[w.heap.size]? = some (.cells #[.slice (some ⟨b, 0, none⟩) 1 cap] 68) ∧ wS.heap[w.heap.size + 1]? = some (.cells #[.int .i64 0, .int .i64 0] 33) ∧ wS.heap[w.heap.size + 2]? = some (.cells #[.int .i64 0, .int .i64 0] 33)) ?_ ?_
  · refine ⟨?_, ?_, ?_, ?_⟩
    · repeat' (first | with_reducible assumption | with_reducible exact AnyLater.refl _ | with_reducible apply AnyLater.setCell | with_reducible apply AnyLater.later | with_reducible apply AnyLater.drewN | with_reducible apply AnyLater.drew | with_reducible apply AnyLater.alloc | ((try simp only [World.size_alloc, World.size_setCell, World.size_drew]); (try dsimp only); omega))
    · ((repeat (first | with_reducible assumption | ((with_reducible apply heap_new); (try simp only [World.size_alloc, World.size_setCell, World.size_drew, World.heap_drewN]); done) | ((with_reducible apply heap_new); (try simp only [World.size_alloc, World.size_setCell, World.size_drew, World.heap_drewN]); omega) | (with_reducible refine heap_old (by (try simp only [World.size_alloc, World.size_setCell, World.size_drew, World.heap_drewN]); omega) ?_) | (with_reducible refine heap_drew ?_) | (with_reducible refine heap_far (by omega) ?_) | (with_reducible apply heap_at))); all_goals rfl)
    · ((repeat (first | with_reducible assumption | ((with_reducible apply heap_new); (try simp only [World.size_alloc, World.size_setCell, World.size_drew, World.heap_drewN]); done) | ((with_reducible apply heap_new); (try simp only [World.size_alloc, World.size_setCell, World.size_drew, World.heap_drewN]); omega) | (with_reducible refine heap_old (by (try simp only [World.size_alloc, World.size_setCell, World.size_drew, World.heap_drewN]); omega) ?_) | (with_reducible refine heap_drew ?_) | (with_reducible refine heap_far (by omega) ?_) | (with_reducible apply heap_at))); all_goals rfl)
    · ((repeat (first | with_reducible assumption | ((with_reducible apply heap_new); (try simp only [World.size_alloc, World.size_setCell, World.size_drew, World.heap_drewN]); done) | ((with_reducible apply heap_new); (try simp only [World.size_alloc, World.size_setCell, World.size_drew, World.heap_drewN]); omega) | (with_reducible refine heap_old (by (try simp only [World.size_alloc, World.size_setCell, World.size_drew, World.heap_drewN]); omega) ?_) | (with_reducible refine heap_drew ?_) | (with_reducible refine heap_far (by omega) ?_) | (with_reducible apply heap_at))); all_goals rfl)
  rintro w1 ⟨b_w1, s0_w1, s1_w1, s2_w1⟩
  have a_w1 := b_w1
  have r0_w1 := own_row s0_w1
  have f0_w1 := own_free s0_w1
  have l0_w1 := own_lt s0_w1
  have r1_w1 := own_row s1_w1
  have f1_w1 := own_free s1_w1
  have l1_w1 := own_lt s1_w1
  have r2_w1 := own_row s2_w1
  have f2_w1 := own_free s2_w1
  have l2_w1 := own_lt s2_w1
  have z_w1 := b_w1.below.size
  have c1 := (HC.out.later a_w1).cell
  refine wp_loop_rounds 2 ?_
  rw [rounds_succ]
  go_wp2_with fail
  refine (HS.out _ a_w1).mono ?_
  rintro e w2 ⟨rfl, b_w2⟩
  have z_w2 := b_w2.below.size
  have a_w2 := a_w1.trans b_w2
  have s0_w2 := any_own b_w2 s0_w1
  have s1_w2 := any_own b_w2 s1_w1
  have s2_w2 := any_own b_w2 s2_w1
  have r0_w2 := own_row s0_w2
  have f0_w2 := own_free s0_w2
  have l0_w2 := own_lt s0_w2
  have r1_w2 := own_row s1_w2
  have f1_w2 := own_free s1_w2
  have l1_w2 := own_lt s1_w2
  have r2_w2 := own_row s2_w2
  have f2_w2 := own_free s2_w2
  have l2_w2 := own_lt s2_w2
  (try clear r0_w1); (try clear f0_w1)
  (try clear r1_w1); (try clear f1_w1)
  (try clear r2_w1); (try clear f2_w1)
  go_wp2_with fail
  first | refine settle_wp (fun wS => AnyLater w wS ∧ wS.heap[w.heap.size]? = some (.cells #[.slice (some ⟨b, 0, none⟩) 1 cap] 68) ∧ wS.heap[w.heap.size + 1]? = some (.cells #[.int .i64 0, .int .i64 0] 33) ∧ wS.heap[w.heap.size + 2]? = some (.cells #[.int .i64 R, .int .i64 Hh] 33)) ?_ ?_ | refine settle_calls (fun wS => AnyLater w wS ∧ wS.heap[w.heap.size]? = some (.cells #[.slice (some ⟨b, 0, none⟩) 1 cap] 68) ∧ wS.heap[w.heap.size + 1]? = some (.cells #[.int .i64 0, .int .i64 0] 33) ∧ wS.heap[w.heap.size + 2]? = some (.cells #[.int .i64 R, .int .i64 Hh] 33)) ?_ ?_
  · refine ⟨?_, ?_, ?_, ?_⟩
    · repeat' (first | with_reducible assumption | with_reducible exact AnyLater.refl _ | with_reducible apply AnyLater.setCell | with_reducible apply AnyLater.later | with_reducible apply AnyLater.drewN | with_reducible apply AnyLater.drew | with_reducible apply AnyLater.alloc | ((try simp only [World.size_alloc, World.size_setCell, World.size_drew]); (try dsimp only); omega))
    · ((repeat (first | with_reducible assumption | ((with_reducible apply heap_new); (try simp only [World.size_alloc, World.size_setCell, World.size_drew, World.heap_drewN]); done) | ((with_reducible apply heap_new); (try simp only [World.size_alloc, World.size_setCell, World.size_drew, World.heap_drewN]); omega) | (with_reducible refine heap_old (by (try simp only [World.size_alloc, World.size_setCell, World.size_drew, World.heap_drewN]); omega) ?_) | (with_reducible refine heap_drew ?_) | (with_reducible refine heap_far (by omega) ?_) | (with_reducible apply heap_at))); all_goals rfl)
    · ((repeat (first | with_reducible assumption | ((with_reducible apply heap_new); (try simp only [World.size_alloc, World.size_setCell, World.size_drew, World.heap_drewN]); done) | ((with_reducible apply heap_new); (try simp only [World.size_alloc, World.size_setCell, World.size_drew, World.heap_drewN]); omega) | (with_reducible refine heap_old (by (try simp only [World.size_alloc, World.size_setCell, World.size_drew, World.heap_drewN]); omega) ?_) | (with_reducible refine heap_drew ?_) | (with_reducible refine heap_far (by omega) ?_) | (with_reducible apply heap_at))); all_goals rfl)
    · ((repeat (first | with_reducible assumption | ((with_reducible apply heap_new); (try simp only [World.size_alloc, World.size_setCell, World.size_drew, World.heap_drewN]); done) | ((with_reducible apply heap_new); (try simp only [World.size_alloc, World.size_setCell, World.size_drew, World.heap_drewN]); omega) | (with_reducible refine heap_old (by (try simp only [World.size_alloc, World.size_setCell, World.size_drew, World.heap_drewN]); omega) ?_) | (with_reducible refine heap_drew ?_) | (with_reducible refine heap_far (by omega) ?_) | (with_reducible apply heap_at))); all_goals rfl)
  rintro w3 ⟨b_w3, s0_w3, s1_w3, s2_w3⟩
  have a_w3 := b_w3
  have r0_w3 := own_row s0_w3
  have f0_w3 := own_free s0_w3
  have l0_w3 := own_lt s0_w3
  have r1_w3 := own_row s1_w3
  have f1_w3 := own_free s1_w3
  have l1_w3 := own_lt s1_w3
  have r2_w3 := own_row s2_w3
  have f2_w3 := own_free s2_w3
  have l2_w3 := own_lt s2_w3
  have z_w3 := b_w3.below.size
  refine (HL.out _ a_w3).mono ?_
  rintro e w4 ⟨rfl, b_w4⟩
  have z_w4 := b_w4.below.size
  have a_w4 := a_w3.trans b_w4
  have s0_w4 := any_own b_w4 s0_w3
  have s1_w4 := any_own b_w4 s1_w3
  have s2_w4 := any_own b_w4 s2_w3
  have r0_w4 := own_row s0_w4
  have f0_w4 := own_free s0_w4
  have l0_w4 := own_lt s0_w4
  have r1_w4 := own_row s1_w4
  have f1_w4 := own_free s1_w4
  have l1_w4 := own_lt s1_w4
  have r2_w4 := own_row s2_w4
  have f2_w4 := own_free s2_w4
  have l2_w4 := own_lt s2_w4
  (try clear r0_w3); (try clear f0_w3)
  (try clear r1_w3); (try clear f1_w3)
  (try clear r2_w3); (try clear f2_w3)
  go_wp2_with fail
  rw [rounds_succ]
  go_wp2_with fail
  refine bodyPost_ret (v := .agg #[.int .i64 R, .int .i64 Hh]) (by simp [results, Try.results37, go_sem, *]) rfl ⟨rfl, ?_⟩
  repeat' (first | with_reducible assumption | with_reducible exact AnyLater.refl _ | with_reducible apply AnyLater.setCell | with_reducible apply AnyLater.later | with_reducible apply AnyLater.drewN | with_reducible apply AnyLater.drew | with_reducible apply AnyLater.alloc | ((try simp only [World.size_alloc, World.size_setCell, World.size_drew]); (try dsimp only); omega))
theorem hgsum_any (v : Value) (c : Cw) (l : Qs) (i : Int) (w : World) (R Hh : Int) (hR : tlR (l.take (sumN l i)) = R) (hH : tlH (l.take (sumN l i)) = Hh) (h : IsCh B w v c l) : Calls Try.prog 37 #[.agg #[v], .int .i64 i] w fun e w' => e = .returned (.agg #[.int .i64 R, .int .i64 Hh]) ∧ AnyLater w w' := by
  rcases h.cases with ⟨_, rfl, A, cap, rfl⟩ | ⟨b, cap, g, t, _, rfl, k, rfl⟩
  · rw [List.take_nil] at hR hH
    subst hR
    subst hH
    exact hgsum_none A cap i w
  · exact hgsum_one b cap g t i w R Hh hR hH k

/-! ### in which a place lies -/
theorem fd_cases {l : Qs} (h : Tls l) (hl : l.length ≤ 45000) (y : Int) : fdL 2 y l 0 (-1) 0 0 = (-1, 0) ∨ ∃ (n : Nat) (f : Int), fdL 2 y l 0 (-1) 0 0 = ((n : Int), f) ∧ n < l.length ∧ 0 ≤ f ∧ f ≤ 2000000000000 := by
  by_cases h0 : tlC 2 l = 0
  · exact .inl (fdL_none (.inr rfl) y l _ _ _ _ h h0)
  · have h1 := h.cnt 2
    obtain ⟨c, hc⟩ : ∃ c, clcClamp y 0 (tlC 2 l - 1) = c := ⟨_, rfl⟩
    have hcb : 0 ≤ c ∧ c < tlC 2 l := by
      rw [← hc]; unfold clcClamp
      split
      · omega
      · split <;> omega
    obtain ⟨pre, x, post, e, h3, h4⟩ := lies_in (.inr rfl) l c h hcb.1 hcb.2
    subst e
    refine .inr ⟨pre.length, tlC 2 pre, fdL_found (.inr rfl) y pre post x h c hc h3 h4, by simp, ?_⟩
    have hb := (h.left.bound (by simp only [List.length_append, List.length_cons] at hl; omega) pre.length).2
    rw [List.take_length] at hb
    exact hb
theorem fdL_max {l : Qs} (h : Tls l) (y : Int) : fdL 2 (max y 0) l 0 (-1) 0 0 = fdL 2 y l 0 (-1) 0 0 := by
  by_cases h0 : tlC 2 l = 0
  · rw [fdL_none (.inr rfl) _ l _ _ _ _ h h0, fdL_none (.inr rfl) _ l _ _ _ _ h h0]
  · have h1 := h.cnt 2
    obtain ⟨c, hc⟩ : ∃ c, clcClamp y 0 (tlC 2 l - 1) = c := ⟨_, rfl⟩
    have hcb : 0 ≤ c ∧ c < tlC 2 l ∧ clcClamp (max y 0) 0 (tlC 2 l - 1) = c := by
      rw [← hc]; unfold clcClamp
      rcases Int.le_total y 0 with q | q
      · rw [Int.max_eq_right q]
        split
        · split <;> (try split) <;> omega
        · split <;> (try split) <;> (try split) <;> omega
      · rw [Int.max_eq_left q]
        split
        · omega
        · split <;> omega
    obtain ⟨pre, x, post, e, h3, h4⟩ := lies_in (.inr rfl) l c h hcb.1 hcb.2.1
    subst e
    rw [fdL_found (.inr rfl) y pre post x h c hc h3 h4, fdL_found (.inr rfl) (max y 0) pre post x h c hcb.2.2 h3 h4]
set_option maxRecDepth 100000 in
theorem hgfind_none (A : Option Addr) (cap : Nat) (y : Int) (w : World) : Calls Try.prog 36 #[.agg #[.slice A 0 cap], .int .i64 y] w fun e w' => e = .returned (.tuple #[.int .i64 (-1), .int .i64 0]) ∧ AnyLater w w' := by
  obtain ⟨z, hz⟩ : ∃ z, max y 0 = z := ⟨_, rfl⟩
  have hmx : ∀ (w : World) (ts : Array TypeId) (ty : TypeId), (Builtin.max_ ts ty #[.int .i64 y, .int .i64 0]).run Try.prog w = .ok (.int .i64 z) w := fun w ts ty => by rw [hrun_max, hz]
  clear hz
  have hf1 := hfield1
  go_enter Try.func36, Try.ntmps36
  go_wp2_with fail
  refine wp_loop_rounds 1 ?_
  rw [rounds_succ]
  go_wp2_with fail
  refine bodyPost_ret (v := .tuple #[.int .i64 (-1), .int .i64 0]) (by simp [results, Try.results36, go_sem, *]) rfl ⟨rfl, ?_⟩
  repeat' (first | with_reducible assumption | with_reducible exact AnyLater.refl _ | with_reducible apply AnyLater.setCell | with_reducible apply AnyLater.later | with_reducible apply AnyLater.drewN | with_reducible apply AnyLater.drew | with_reducible apply AnyLater.alloc | ((try simp only [World.size_alloc, World.size_setCell, World.size_drew]); (try dsimp only); omega))
set_option maxRecDepth 100000 in
set_option maxHeartbeats 800000 in
theorem hgfind_one (b cap g : Nat) (t : Ht) (y : Int) (w : World) (h : ChOne B w b g t) (hy : y ≤ 9223372036854775807) (r1 r2 : Int) (hr : fdL 2 y t.hs 0 (-1) 0 0 = (r1, r2)) : Calls Try.prog 36 #[.agg #[.slice (some ⟨b, 0, none⟩) 1 cap], .int .i64 y] w fun e w' => e = .returned (.tuple #[.int .i64 r1, .int .i64 r2]) ∧ AnyLater w w' := by
  have hm := h.q.ok.most
  have hfd := fd_cases h.q.ok.tls hm y
  rw [hr] at hfd
  have hr' := fdL_max h.q.ok.tls y
  rw [hr] at hr'
  obtain ⟨z, hz⟩ : ∃ z, max y 0 = z := ⟨_, rfl⟩
  have hz0 : 0 ≤ z := by omega
  have hz1 : z ≤ 9223372036854775807 := by omega
  have hmx : ∀ (w : World) (ts : Array TypeId) (ty : TypeId), (Builtin.max_ ts ty #[.int .i64 y, .int .i64 0]).run Try.prog w = .ok (.int .i64 z) w := fun w ts ty => by rw [hrun_max, hz]
  rw [hz] at hr'
  have HF := Lib.hid (fun (w' : World) (a : AnyLater w w') => sqFind_any (.pointer (some ⟨g, 0, none⟩)) t z w' (r1, r2) hr' (h.q.q.nil_or.later a) h.q.fit)
  have HL := Lib.hid (fun (w' : World) (a : AnyLater w w') => sqlen_any (.pointer (some ⟨g, 0, none⟩)) t w' (h.q.q.nil_or.later a) h.q.fit)
  obtain ⟨R, hR⟩ : ∃ R, tlR (t.hs.take (sumN t.hs (t.hs.length : Int))) = R := ⟨_, rfl⟩
  obtain ⟨Hh, hH⟩ : ∃ R, tlH (t.hs.take (sumN t.hs (t.hs.length : Int))) = R := ⟨_, rfl⟩
  have hb := h.q.ok.tls.bound (by omega) (sumN t.hs (t.hs.length : Int))
  rw [hR, hH] at hb
  have HS := Lib.hid (fun (w' : World) (a : AnyLater w w') => sqsum_any (.pointer (some ⟨g, 0, none⟩)) t (t.hs.length : Int) w' R Hh hR hH (h.q.q.nil_or.later a) h.q.fit)
  have HC := Lib.hid h
  obtain ⟨⟨b1, b2⟩, b3, b4⟩ := hb
  clear h hR hH hr hr' hz
  rcases hfd with hfd | ⟨k, f, hfd, k1, k2, k3⟩
  · obtain ⟨rfl, rfl⟩ := Prod.mk.inj hfd
    clear hfd
    generalize t.hs.length = n at *
    have hf1 := hfield1
    go_enter Try.func36, Try.ntmps36
    go_wp2_with fail
    first | refine settle_wp (fun wS => AnyLater w wS ∧ wS.heap[w.heap.size]? = some (.cells #[.slice (some ⟨b, 0, none⟩) 1 cap] 68)) ?_ ?_ | refine settle_calls (fun wS => AnyLater w wS ∧ wS.heap[w.heap.size]? = some (.cells #[.slice (some ⟨b, 0, none⟩) 1 cap] 68)) ?_ ?_
    · refine ⟨?_, ?_⟩
      · repeat' (first | with_reducible assumption | with_reducible exact AnyLater.refl _ | with_reducible apply AnyLater.setCell | with_reducible apply AnyLater.later | with_reducible apply AnyLater.drewN | with_reducible apply AnyLater.drew | with_reducible apply AnyLater.alloc | ((try simp only [World.size_alloc, World.size_setCell, World.size_drew]); (try dsimp only); omega))
      · ((repeat (first | with_reducible assumption | ((with_reducible apply heap_new); (try simp only [World.size_alloc, World.size_setCell, World.size_drew, World.heap_drewN]); done) | ((with_reducible apply heap_new); (try simp only [World.size_alloc, World.size_setCell, World.size_drew, World.heap_drewN]); omega) | (with_reducible refine heap_old (by (try simp only [World.size_alloc, World.size_setCell, World.size_drew, World.heap_drewN]); omega) ?_) | (with_reducible refine heap_drew ?_) | (with_reducible refine heap_far (by omega) ?_) | (with_reducible apply heap_at))); all_goals rfl)
    rintro w1 ⟨b_w1, s0_w1⟩
    have a_w1 := b_w1
    have r0_w1 := own_row s0_w1
    have f0_w1 := own_free s0_w1
    have l0_w1 := own_lt s0_w1
    have z_w1 := b_w1.below.size
    have c1 := (HC.out.later a_w1).cell
    refine wp_loop_rounds 2 ?_
    rw [rounds_succ]
    go_wp2_with fail
    refine (HF.out _ a_w1).mono ?_
    rintro e w2 ⟨rfl, b_w2⟩
    have z_w2 := b_w2.below.size
    have a_w2 := a_w1.trans b_w2
    have s0_w2 := any_own b_w2 s0_w1
    have r0_w2 := own_row s0_w2
    have f0_w2 := own_free s0_w2
    have l0_w2 := own_lt s0_w2
    (try clear r0_w1); (try clear f0_w1)
    go_wp2_with fail
    refine (HL.out _ a_w2).mono ?_
    rintro e w3 ⟨rfl, b_w3⟩
    have z_w3 := b_w3.below.size
    have a_w3 := a_w2.trans b_w3
    have s0_w3 := any_own b_w3 s0_w2
    have r0_w3 := own_row s0_w3
    have f0_w3 := own_free s0_w3
    have l0_w3 := own_lt s0_w3
    (try clear r0_w2); (try clear f0_w2)
    go_wp2_with fail
    refine (HL.out _ a_w3).mono ?_
    rintro e w4 ⟨rfl, b_w4⟩
    have z_w4 := b_w4.below.size
    have a_w4 := a_w3.trans b_w4
    have s0_w4 := any_own b_w4 s0_w3
    have r0_w4 := own_row s0_w4
    have f0_w4 := own_free s0_w4
    have l0_w4 := own_lt s0_w4
    (try clear r0_w3); (try clear f0_w3)
    go_wp2_with fail
    refine (HS.out _ a_w4).mono ?_
    rintro e w5 ⟨rfl, b_w5⟩
    have z_w5 := b_w5.below.size
    have a_w5 := a_w4.trans b_w5
    have s0_w5 := any_own b_w5 s0_w4
    have r0_w5 := own_row s0_w5
    have f0_w5 := own_free s0_w5
    have l0_w5 := own_lt s0_w5
    (try clear r0_w4); (try clear f0_w4)
    go_wp2_with fail
    rw [rounds_succ]
    go_wp2_with fail
    refine bodyPost_ret (v := .tuple #[.int .i64 (-1), .int .i64 0]) (by simp [results, Try.results36, go_sem, *]) rfl ⟨rfl, ?_⟩
    exact a_w5
  · obtain ⟨rfl, rfl⟩ := Prod.mk.inj hfd
    clear hfd
    generalize t.hs.length = n at *
    have hf1 := hfield1
    go_enter Try.func36, Try.ntmps36
    go_wp2_with fail
    first | refine settle_wp (fun wS => AnyLater w wS ∧ wS.heap[w.heap.size]? = some (.cells #[.slice (some ⟨b, 0, none⟩) 1 cap] 68)) ?_ ?_ | refine settle_calls (fun wS => AnyLater w wS ∧ wS.heap[w.heap.size]? = some (.cells #[.slice (some ⟨b, 0, none⟩) 1 cap] 68)) ?_ ?_
    · refine ⟨?_, ?_⟩
      · repeat' (first | with_reducible assumption | with_reducible exact AnyLater.refl _ | with_reducible apply AnyLater.setCell | with_reducible apply AnyLater.later | with_reducible apply AnyLater.drewN | with_reducible apply AnyLater.drew | with_reducible apply AnyLater.alloc | ((try simp only [World.size_alloc, World.size_setCell, World.size_drew]); (try dsimp only); omega))
      · ((repeat (first | with_reducible assumption | ((with_reducible apply heap_new); (try simp only [World.size_alloc, World.size_setCell, World.size_drew, World.heap_drewN]); done) | ((with_reducible apply heap_new); (try simp only [World.size_alloc, World.size_setCell, World.size_drew, World.heap_drewN]); omega) | (with_reducible refine heap_old (by (try simp only [World.size_alloc, World.size_setCell, World.size_drew, World.heap_drewN]); omega) ?_) | (with_reducible refine heap_drew ?_) | (with_reducible refine heap_far (by omega) ?_) | (with_reducible apply heap_at))); all_goals rfl)
    rintro w1 ⟨b_w1, s0_w1⟩
    have a_w1 := b_w1
    have r0_w1 := own_row s0_w1
    have f0_w1 := own_free s0_w1
    have l0_w1 := own_lt s0_w1
    have z_w1 := b_w1.below.size
    have c1 := (HC.out.later a_w1).cell
    refine wp_loop_rounds 2 ?_
    rw [rounds_succ]
    go_wp2_with fail
    refine (HF.out _ a_w1).mono ?_
    rintro e w2 ⟨rfl, b_w2⟩
    have z_w2 := b_w2.below.size
    have a_w2 := a_w1.trans b_w2
    have s0_w2 := any_own b_w2 s0_w1
    have r0_w2 := own_row s0_w2
    have f0_w2 := own_free s0_w2
    have l0_w2 := own_lt s0_w2
    (try clear r0_w1); (try clear f0_w1)
    go_wp2_with fail
    refine (HL.out _ a_w2).mono ?_
    rintro e w3 ⟨rfl, b_w3⟩
    have z_w3 := b_w3.below.size
    have a_w3 := a_w2.trans b_w3
    have s0_w3 := any_own b_w3 s0_w2
    have r0_w3 := own_row s0_w3
    have f0_w3 := own_free s0_w3
    have l0_w3 := own_lt s0_w3
    (try clear r0_w2); (try clear f0_w2)
    go_wp2_with fail
    refine (HL.out _ a_w3).mono ?_
    rintro e w4 ⟨rfl, b_w4⟩
    have z_w4 := b_w4.below.size
    have a_w4 := a_w3.trans b_w4
    have s0_w4 := any_own b_w4 s0_w3
    have r0_w4 := own_row s0_w4
    have f0_w4 := own_free s0_w4
    have l0_w4 := own_lt s0_w4
    (try clear r0_w3); (try clear f0_w3)
    go_wp2_with fail
    refine (HS.out _ a_w4).mono ?_
    rintro e w5 ⟨rfl, b_w5⟩
    have z_w5 := b_w5.below.size
    have a_w5 := a_w4.trans b_w5
    have s0_w5 := any_own b_w5 s0_w4
    have r0_w5 := own_row s0_w5
    have f0_w5 := own_free s0_w5
    have l0_w5 := own_lt s0_w5
    (try clear r0_w4); (try clear f0_w4)
    go_wp2_with fail
    rw [rounds_succ]
    go_wp2_with fail
    refine bodyPost_ret (v := .tuple #[.int .i64 (k : Int), .int .i64 r2]) (by simp [results, Try.results36, go_sem, *]) rfl ⟨rfl, ?_⟩
    exact a_w5
theorem hgfind_any (v : Value) (c : Cw) (l : Qs) (y : Int) (w : World) (hy : y ≤ 9223372036854775807) (r1 r2 : Int) (hr : fdL 2 y l 0 (-1) 0 0 = (r1, r2)) (h : IsCh B w v c l) : Calls Try.prog 36 #[.agg #[v], .int .i64 y] w fun e w' => e = .returned (.tuple #[.int .i64 r1, .int .i64 r2]) ∧ AnyLater w w' := by
  rcases h.cases with ⟨_, rfl, A, cap, rfl⟩ | ⟨b, cap, g, t, _, rfl, k, rfl⟩
  · obtain ⟨rfl, rfl⟩ := Prod.mk.inj hr
    exact hgfind_none A cap y w
  · exact hgfind_one b cap g t y w k hy r1 r2 hr

/-! ### pick -/
/-- the height in which y lies, and whether it lies in one -/
def pkV (l : Qs) (y : Int) : Value := if y < 0 ∨ tlH l ≤ y then .tuple #[.int .i64 0, .bool false] else .tuple #[.int .i64 (fdL 2 y l 0 (-1) 0 0).1, .bool true]
theorem sumN_all (l : Qs) : sumN l (l.length : Int) = l.length := by
  unfold sumN clcClamp
  split
  · omega
  · split <;> omega
set_option maxRecDepth 100000 in
theorem hgpick_any (v : Value) (c : Cw) (l : Qs) (y : Int) (w : World) (r : Value) (hr : pkV l y = r) (h : IsCh B w v c l) : Calls Try.prog 38 #[.agg #[v], .int .i64 y] w fun e w' => e = .returned r ∧ AnyLater w w' := by
  subst hr
  unfold pkV
  have HL := Lib.hid (fun (w' : World) (a : AnyLater w w') => hgsize_any v c l w' (h.later a))
  obtain ⟨R, hR⟩ : ∃ R, tlR (l.take (sumN l (l.length : Int))) = R := ⟨_, rfl⟩
  obtain ⟨Hh, hH⟩ : ∃ R, tlH (l.take (sumN l (l.length : Int))) = R := ⟨_, rfl⟩
  have HS := Lib.hid (fun (w' : World) (a : AnyLater w w') => hgsum_any v c l (l.length : Int) w' R Hh hR hH (h.later a))
  have hH2 := hH
  rw [sumN_all, List.take_length] at hH2
  rw [hH2]
  have hB : Hh ≤ 2000000000000 := by rw [← hH]; exact (h.tls.1.bound (by have := h.tls.2; omega) _).2.2
  have HF := Lib.hid (fun (hy : y ≤ 9223372036854775807) (w' : World) (a : AnyLater w w') => hgfind_any v c l y w' hy _ _ (Prod.ext rfl rfl : fdL 2 y l 0 (-1) 0 0 = ((fdL 2 y l 0 (-1) 0 0).1, (fdL 2 y l 0 (-1) 0 0).2)) (h.later a))
  obtain ⟨A, n, cap, rfl⟩ := h.slc
  clear h hR hH hH2
  generalize (fdL 2 y l 0 (-1) 0 0).1 = r1 at *
  generalize (fdL 2 y l 0 (-1) 0 0).2 = r2 at *
  generalize l.length = m at *
  by_cases h0 : y < 0
  · rw [if_pos (.inl h0)]
    have d0 : decide (y < 0) = true := decide_eq_true h0
    have hf1 := hfield1
    go_enter Try.func38, Try.ntmps38
    go_wp2_with fail
    first | refine settle_wp (fun wS => AnyLater w wS ∧ wS.heap[w.heap.size]? = some (.cells #[.slice A n cap] 68)) ?_ ?_ | refine settle_calls (fun wS => AnyLater w wS ∧ wS.heap[w.heap.size]? = some (.cells #[.slice A n cap] 68)) ?_ ?_
    · refine ⟨?_, ?_⟩
      · repeat' (first | with_reducible assumption | with_reducible exact AnyLater.refl _ | with_reducible apply AnyLater.setCell | with_reducible apply AnyLater.later | with_reducible apply AnyLater.drewN | with_reducible apply AnyLater.drew | with_reducible apply AnyLater.alloc | ((try simp only [World.size_alloc, World.size_setCell, World.size_drew]); (try dsimp only); omega))
      · ((repeat (first | with_reducible assumption | ((with_reducible apply heap_new); (try simp only [World.size_alloc, World.size_setCell, World.size_drew, World.heap_drewN]); done) | ((with_reducible apply heap_new); (try simp only [World.size_alloc, World.size_setCell, World.size_drew, World.heap_drewN]); omega) | (with_reducible refine heap_old (by (try simp only [World.size_alloc, World.size_setCell, World.size_drew, World.heap_drewN]); omega) ?_) | (with_reducible refine heap_drew ?_) | (with_reducible refine heap_far (by omega) ?_) | (with_reducible apply heap_at))); all_goals rfl)
    rintro w1 ⟨b_w1, s0_w1⟩
    have a_w1 := b_w1
    have r0_w1 := own_row s0_w1
    have f0_w1 := own_free s0_w1
    have l0_w1 := own_lt s0_w1
    have z_w1 := b_w1.below.size
    apply wp_region_mem (11) [] (by kernel_rfl) (by kernel_rfl) (by simp)
    case hstab =>
      intro e he v x y hxy hv
      simp only [List.mem_cons, List.not_mem_nil, or_false] at he
    case hlex =>
      intro U
      have q0 := fun (v : Later (later U)) => own_row (any_own ⟨v, rfl⟩ (any_own ⟨U, rfl⟩ s0_w1))
      simp only [absFrom, absOp, idx, List.map_cons, List.map_nil, List.contains_cons, List.contains_nil, Nat.reduceBEq, Bool.or_false, Bool.false_or, Bool.true_or, Bool.or_true, Bool.false_eq_true, Nat.reduceLeDiff, Nat.reduceAdd, if_false, if_true]
      repeat (go_big_quiet_step (fail))
      exact wpQuiet_nil rfl
    case hown =>
      intro e he o ho
      simp only [List.mem_cons, List.not_mem_nil, or_false] at he
    case htail =>
      intro g u hst hne
      have b_w2 : AnyLater w1 (later u) := ⟨u, rfl⟩
      generalize later u = w2 at *
      clear u
      clear hst hne
      simp only [fillAll, Act.put, List.setIfInBounds_toArray, List.set_cons_zero, List.set_cons_succ, List.drop_succ_cons, List.drop_zero]
      have z_w2 := b_w2.below.size
      have a_w2 := a_w1.trans b_w2
      have s0_w2 := any_own b_w2 s0_w1
      have r0_w2 := own_row s0_w2
      have f0_w2 := own_free s0_w2
      have l0_w2 := own_lt s0_w2
      (try clear r0_w1); (try clear f0_w1)
      go_wp2_with fail
      refine bodyPost_ret (v := .tuple #[.int .i64 0, .bool false]) (by simp [results, Try.results38, go_sem, *]) rfl ⟨rfl, ?_⟩
      exact a_w2
  · have d0 : decide (y < 0) = false := decide_eq_false h0
    by_cases h1 : Hh ≤ y
    · rw [if_pos (.inr h1)]
      have d1 : decide (Hh ≤ y) = true := decide_eq_true h1
      have hf1 := hfield1
      go_enter Try.func38, Try.ntmps38
      go_wp2_with fail
      first | refine settle_wp (fun wS => AnyLater w wS ∧ wS.heap[w.heap.size]? = some (.cells #[.slice A n cap] 68)) ?_ ?_ | refine settle_calls (fun wS => AnyLater w wS ∧ wS.heap[w.heap.size]? = some (.cells #[.slice A n cap] 68)) ?_ ?_
      · refine ⟨?_, ?_⟩
        · repeat' (first | with_reducible assumption | with_reducible exact AnyLater.refl _ | with_reducible apply AnyLater.setCell | with_reducible apply AnyLater.later | with_reducible apply AnyLater.drewN | with_reducible apply AnyLater.drew | with_reducible apply AnyLater.alloc | ((try simp only [World.size_alloc, World.size_setCell, World.size_drew]); (try dsimp only); omega))
        · ((repeat (first | with_reducible assumption | ((with_reducible apply heap_new); (try simp only [World.size_alloc, World.size_setCell, World.size_drew, World.heap_drewN]); done) | ((with_reducible apply heap_new); (try simp only [World.size_alloc, World.size_setCell, World.size_drew, World.heap_drewN]); omega) | (with_reducible refine heap_old (by (try simp only [World.size_alloc, World.size_setCell, World.size_drew, World.heap_drewN]); omega) ?_) | (with_reducible refine heap_drew ?_) | (with_reducible refine heap_far (by omega) ?_) | (with_reducible apply heap_at))); all_goals rfl)
      rintro w1 ⟨b_w1, s0_w1⟩
      have a_w1 := b_w1
      have r0_w1 := own_row s0_w1
      have f0_w1 := own_free s0_w1
      have l0_w1 := own_lt s0_w1
      have z_w1 := b_w1.below.size
      apply wp_region_free (11) [⟨6, 14, .int .i64 (m : Int), false, fun v _ => v = .int .i64 (m : Int)⟩, ⟨7, 15, .agg #[.int .i64 R, .int .i64 Hh], false, fun v _ => v = .agg #[.int .i64 R, .int .i64 Hh]⟩] [] rfl (by kernel_rfl) (by kernel_rfl) (by kernel_rfl) (by simp) (by kernel_rfl)
      case hstab =>
        intro c hc
        simp only [List.mem_cons, List.not_mem_nil, or_false] at hc
        rcases hc with rfl | rfl
        · intro v x y hxy hv; exact hv
        · intro v x y hxy hv; exact hv
      case hfix =>
        intro c hc
        simp only [List.mem_cons, List.not_mem_nil, or_false] at hc
        rcases hc with rfl | rfl
        · exact .inr fun u x h => h
        · exact .inr fun u x h => h
      case hlex =>
        intro U hU
        have q0 := own_row (any_own hU s0_w1)
        simp only [List.map_cons, List.map_nil, CA.act, actFrom, actOp, List.lookup, Nat.reduceBEq, Nat.reduceLeDiff, Nat.reduceAdd, if_false, if_true]
        repeat (go_big_quiet_step (fail))
        exact wpQuiet_nil rfl
      case hstep =>
        intro j hj o ho
        have hj2 : j = 0 ∨ j = 1 := by simp at hj; omega
        rcases hj2 with rfl | rfl
        · cases ho
          refine ⟨rfl, fun g x hx hp => ?_⟩
          clear hp
          simp only [fillAll, Act.put, List.setIfInBounds_toArray, List.set_cons_zero, List.set_cons_succ]
          refine chain_go ?_ (free_fix (HL.out x (a_w1.trans hx)))
          first | (simp [go_sem, execOp]; done) | simp [go_sem, execOp, hcf]
        · cases ho
          refine ⟨rfl, fun g x hx hp => ?_⟩
          clear hp
          simp only [fillAll, Act.put, List.setIfInBounds_toArray, List.set_cons_zero, List.set_cons_succ]
          refine chain_go ?_ (free_fix (HS.out x (a_w1.trans hx)))
          first | (simp [go_sem, execOp]; done) | simp [go_sem, execOp, hcf]
      case htail =>
        intro g u hst hne
        have b_w2 : AnyLater w1 (later u) := ⟨u, rfl⟩
        generalize later u = w2 at *
        clear u
        clear hst hne
        simp only [fillAll, Act.put, List.setIfInBounds_toArray, List.set_cons_zero, List.set_cons_succ, List.drop_succ_cons, List.drop_zero, List.drop_nil]
        have z_w2 := b_w2.below.size
        have a_w2 := a_w1.trans b_w2
        have s0_w2 := any_own b_w2 s0_w1
        have r0_w2 := own_row s0_w2
        have f0_w2 := own_free s0_w2
        have l0_w2 := own_lt s0_w2
        (try clear r0_w1); (try clear f0_w1)
        go_wp2_with fail
        refine bodyPost_ret (v := .tuple #[.int .i64 0, .bool false]) (by simp [results, Try.results38, go_sem, *]) rfl ⟨rfl, ?_⟩
        exact a_w2
    · rw [if_neg (by omega)]
      have d1 : decide (Hh ≤ y) = false := decide_eq_false h1
      have hf1 := hfield1
      go_enter Try.func38, Try.ntmps38
      go_wp2_with fail
      first | refine settle_wp (fun wS => AnyLater w wS ∧ wS.heap[w.heap.size]? = some (.cells #[.slice A n cap] 68)) ?_ ?_ | refine settle_calls (fun wS => AnyLater w wS ∧ wS.heap[w.heap.size]? = some (.cells #[.slice A n cap] 68)) ?_ ?_
      · refine ⟨?_, ?_⟩
        · repeat' (first | with_reducible assumption | with_reducible exact AnyLater.refl _ | with_reducible apply AnyLater.setCell | with_reducible apply AnyLater.later | with_reducible apply AnyLater.drewN | with_reducible apply AnyLater.drew | with_reducible apply AnyLater.alloc | ((try simp only [World.size_alloc, World.size_setCell, World.size_drew]); (try dsimp only); omega))
        · ((repeat (first | with_reducible assumption | ((with_reducible apply heap_new); (try simp only [World.size_alloc, World.size_setCell, World.size_drew, World.heap_drewN]); done) | ((with_reducible apply heap_new); (try simp only [World.size_alloc, World.size_setCell, World.size_drew, World.heap_drewN]); omega) | (with_reducible refine heap_old (by (try simp only [World.size_alloc, World.size_setCell, World.size_drew, World.heap_drewN]); omega) ?_) | (with_reducible refine heap_drew ?_) | (with_reducible refine heap_far (by omega) ?_) | (with_reducible apply heap_at))); all_goals rfl)
      rintro w1 ⟨b_w1, s0_w1⟩
      have a_w1 := b_w1
      have r0_w1 := own_row s0_w1
      have f0_w1 := own_free s0_w1
      have l0_w1 := own_lt s0_w1
      have z_w1 := b_w1.below.size
      apply wp_region_free (11) [⟨6, 14, .int .i64 (m : Int), false, fun v _ => v = .int .i64 (m : Int)⟩, ⟨7, 15, .agg #[.int .i64 R, .int .i64 Hh], false, fun v _ => v = .agg #[.int .i64 R, .int .i64 Hh]⟩] [] rfl (by kernel_rfl) (by kernel_rfl) (by kernel_rfl) (by simp) (by kernel_rfl)
      case hstab =>
        intro c hc
        simp only [List.mem_cons, List.not_mem_nil, or_false] at hc
        rcases hc with rfl | rfl
        · intro v x y hxy hv; exact hv
        · intro v x y hxy hv; exact hv
      case hfix =>
        intro c hc
        simp only [List.mem_cons, List.not_mem_nil, or_false] at hc
        rcases hc with rfl | rfl
        · exact .inr fun u x h => h
        · exact .inr fun u x h => h
      case hlex =>
        intro U hU
        have q0 := own_row (any_own hU s0_w1)
        simp only [List.map_cons, List.map_nil, CA.act, actFrom, actOp, List.lookup, Nat.reduceBEq, Nat.reduceLeDiff, Nat.reduceAdd, if_false, if_true]
        repeat (go_big_quiet_step (fail))
        exact wpQuiet_nil rfl
      case hstep =>
        intro j hj o ho
        have hj2 : j = 0 ∨ j = 1 := by simp at hj; omega
        rcases hj2 with rfl | rfl
        · cases ho
          refine ⟨rfl, fun g x hx hp => ?_⟩
          clear hp
          simp only [fillAll, Act.put, List.setIfInBounds_toArray, List.set_cons_zero, List.set_cons_succ]
          refine chain_go ?_ (free_fix (HL.out x (a_w1.trans hx)))
          first | (simp [go_sem, execOp]; done) | simp [go_sem, execOp, hcf]
        · cases ho
          refine ⟨rfl, fun g x hx hp => ?_⟩
          clear hp
          simp only [fillAll, Act.put, List.setIfInBounds_toArray, List.set_cons_zero, List.set_cons_succ]
          refine chain_go ?_ (free_fix (HS.out x (a_w1.trans hx)))
          first | (simp [go_sem, execOp]; done) | simp [go_sem, execOp, hcf]
      case htail =>
        intro g u hst hne
        have b_w2 : AnyLater w1 (later u) := ⟨u, rfl⟩
        generalize later u = w2 at *
        clear u
        clear hst hne
        simp only [fillAll, Act.put, List.setIfInBounds_toArray, List.set_cons_zero, List.set_cons_succ, List.drop_succ_cons, List.drop_zero, List.drop_nil]
        have z_w2 := b_w2.below.size
        have a_w2 := a_w1.trans b_w2
        have s0_w2 := any_own b_w2 s0_w1
        have r0_w2 := own_row s0_w2
        have f0_w2 := own_free s0_w2
        have l0_w2 := own_lt s0_w2
        (try clear r0_w1); (try clear f0_w1)
        go_wp2_with fail
        refine (HF.out (by omega) _ a_w2).mono ?_
        rintro e w3 ⟨rfl, b_w3⟩
        have z_w3 := b_w3.below.size
        have a_w3 := a_w2.trans b_w3
        have s0_w3 := any_own b_w3 s0_w2
        have r0_w3 := own_row s0_w3
        have f0_w3 := own_free s0_w3
        have l0_w3 := own_lt s0_w3
        (try clear r0_w2); (try clear f0_w2)
        go_wp2_with fail
        refine bodyPost_ret (v := .tuple #[.int .i64 r1, .bool true]) (by simp [results, Try.results38, go_sem, *]) rfl ⟨rfl, ?_⟩
        exact a_w3
end Go.Proofs.Ytjoadlfkdkeomaa
namespace Go.Proofs.Ytjoadlfkdkeomaa
set_option linter.unusedSimpArgs false
set_option linter.unusedVariables false
set_option linter.unusedSectionVars false
open Go.RowKit
variable {B : Nat}

/-! ### a height set -/
/-- a chain of which a height was set: its blocks alone are others -/
def CSet (B : Nat) (w : World) (v : Value) (c : Cw) (l : Qs) (w' : World) : Prop := ∃ c', IsCh B w' v c' l ∧ c'.bl = c.bl ∧ Stays (InC w c) w w'
theorem CSet.same {w w' : World} {v : Value} {c : Cw} {l : Qs} (h : IsCh B w v c l) (a : AnyLater w w') : CSet B w v c l w' := ⟨c, h.later a, rfl, .of a⟩
/-- a Seq's blocks are those that they were, where nothing of it has changed -/
theorem Trk.back {w w2 : World} {g b : Nat} {t : Ht} (h : QAt B w g t) (a : AnyLater w w2) (k : Trk w2 g b) : Trk w g b := by
  obtain ⟨rv, hg, _, F, hF, _⟩ := h.obj
  rcases k with rfl | ⟨t', rv', F', k1, k2, k3⟩
  · exact .inl rfl
  · rw [any_own a hg] at k1
    simp only [Option.some.injEq, Obj.cells.injEq, and_true] at k1
    obtain rfl : rv = rv' := by simpa using k1
    obtain ⟨rfl, rfl⟩ := (hF.later a).only k2
    exact .inr ⟨t, rv, F, hg, hF, k3⟩
theorem IsCh.row_own {w : World} {v : Value} {c : Cw} {l : Qs} (h : IsCh B w v c l) {g : Nat} {t : Ht} (hs : c.sq = some (g, t)) : w.ownsRow B 75 1 v 1 [ptrV g] := by
  rcases h.2 with ⟨h1, _⟩ | ⟨g', t', h1, _, _, h4⟩
  · rw [hs] at h1; cases h1
  · rw [hs] at h1; cases h1; exact h4
theorem CSet.of {w w2 w3 : World} {v : Value} {c : Cw} {l l2 : Qs} {g : Nat} {t : Ht} (h : IsCh B w v c l) (hs : c.sq = some (g, t)) (a : AnyLater w w2) (q : QTrk B w2 g t l2 w3) : CSet B w v c l2 w3 := by
  obtain ⟨⟨t', k1, k2, k3⟩, st⟩ := q
  have h2 := h.later a
  refine ⟨⟨c.row, some (g, t')⟩, ⟨h.1, .inr ⟨g, t', rfl, k2, k1, own_row_stays (h2.row_own hs) st (fun b hb hc => ?_)⟩⟩, ?_, (Stays.of a).more st (fun b hb => .inl (.inr ⟨g, t, hs, hb.back (h.seqAt hs).1 a⟩))⟩
  · rw [h.1] at hb
    obtain ⟨_, cs, e⟩ := h2.rowAt hb
    rcases hc.kinds (h2.seqAt hs).1 with ⟨_, rv, e2⟩ | ⟨_, cs, e2⟩ | ⟨_, cs, e2⟩
    · rw [e] at e2; cases e2
    · rw [e] at e2; cases e2
    · rw [e] at e2; cases e2
  · unfold Cw.bl
    rw [hs]
    dsimp only
    rw [k3]
set_option maxRecDepth 100000 in
theorem hgset_step {Q : World → Prop} (v pv : Value) (i k x y r : Int) (w : World)
    (HW : ∀ w', AnyLater w w' → Calls Try.prog 45 #[.agg #[v], .int .i64 i] w' fun e w'' => e = .returned (.tuple #[pv, .int .i64 k]) ∧ AnyLater w' w'')
    (HS : ∀ w', AnyLater w w' → Calls Try.prog 49 #[pv, .int .i64 k, .agg #[.int .i64 x, .int .i64 y]] w' fun e w'' => e = .returned (.int .i64 r) ∧ Q w'')
    (hp : ∃ q, pv = .pointer q) (hv : ∃ A n cap, v = .slice A n cap) :
    Calls Try.prog 39 #[.agg #[v], .int .i64 i, .agg #[.int .i64 x, .int .i64 y]] w fun e w' => e = .returned (.int .i64 r) ∧ Q w' := by
  have HW := Lib.hid HW
  have HS := Lib.hid HS
  obtain ⟨q, rfl⟩ := hp
  obtain ⟨A, n, cap, rfl⟩ := hv
  go_enter Try.func39, Try.ntmps39
  go_wp2_with fail
  first | refine settle_wp (fun wS => AnyLater w wS ∧ wS.heap[w.heap.size]? = some (.cells #[.slice A n cap] 68) ∧ wS.heap[w.heap.size + 1]? = some (.cells #[.int .i64 x, .int .i64 y] 33)) ?_ ?_ | refine settle_calls (fun wS => AnyLater w wS ∧ wS.heap[w.heap.size]? = some (.cells #[.slice A n cap] 68) ∧ wS.heap[w.heap.size + 1]? = some (.cells #[.int .i64 x, .int .i64 y] 33)) ?_ ?_
  · refine ⟨?_, ?_, ?_⟩
    · repeat' (first | with_reducible assumption | with_reducible exact AnyLater.refl _ | with_reducible apply AnyLater.setCell | with_reducible apply AnyLater.later | with_reducible apply AnyLater.drewN | with_reducible apply AnyLater.drew | with_reducible apply AnyLater.alloc | ((try simp only [World.size_alloc, World.size_setCell, World.size_drew]); (try dsimp only); omega))
    · ((repeat (first | with_reducible assumption | ((with_reducible apply heap_new); (try simp only [World.size_alloc, World.size_setCell, World.size_drew, World.heap_drewN]); done) | ((with_reducible apply heap_new); (try simp only [World.size_alloc, World.size_setCell, World.size_drew, World.heap_drewN]); omega) | (with_reducible refine heap_old (by (try simp only [World.size_alloc, World.size_setCell, World.size_drew, World.heap_drewN]); omega) ?_) | (with_reducible refine heap_drew ?_) | (with_reducible refine heap_far (by omega) ?_) | (with_reducible apply heap_at))); all_goals rfl)
    · ((repeat (first | with_reducible assumption | ((with_reducible apply heap_new); (try simp only [World.size_alloc, World.size_setCell, World.size_drew, World.heap_drewN]); done) | ((with_reducible apply heap_new); (try simp only [World.size_alloc, World.size_setCell, World.size_drew, World.heap_drewN]); omega) | (with_reducible refine heap_old (by (try simp only [World.size_alloc, World.size_setCell, World.size_drew, World.heap_drewN]); omega) ?_) | (with_reducible refine heap_drew ?_) | (with_reducible refine heap_far (by omega) ?_) | (with_reducible apply heap_at))); all_goals rfl)
  rintro w1 ⟨b_w1, s0_w1, s1_w1⟩
  have a_w1 := b_w1
  have r0_w1 := own_row s0_w1
  have f0_w1 := own_free s0_w1
  have l0_w1 := own_lt s0_w1
  have r1_w1 := own_row s1_w1
  have f1_w1 := own_free s1_w1
  have l1_w1 := own_lt s1_w1
  have z_w1 := b_w1.below.size
  refine (HW.out _ a_w1).mono ?_
  rintro e w2 ⟨rfl, b_w2⟩
  have z_w2 := b_w2.below.size
  have a_w2 := a_w1.trans b_w2
  have s0_w2 := any_own b_w2 s0_w1
  have s1_w2 := any_own b_w2 s1_w1
  have r0_w2 := own_row s0_w2
  have f0_w2 := own_free s0_w2
  have l0_w2 := own_lt s0_w2
  have r1_w2 := own_row s1_w2
  have f1_w2 := own_free s1_w2
  have l1_w2 := own_lt s1_w2
  (try clear r0_w1); (try clear f0_w1)
  (try clear r1_w1); (try clear f1_w1)
  go_wp2_with fail
  refine (HS.out _ a_w2).mono ?_
  rintro e w3 ⟨rfl, hq⟩
  have HQ := Lib.hid hq
  clear hq
  go_wp2_with fail
  go_ret
  exact ⟨rfl, HQ.out⟩
theorem hgset_any (v : Value) (c : Cw) (l : Qs) (i x y : Int) (w : World) (h : IsCh B w v c l) : Calls Try.prog 39 #[.agg #[v], .int .i64 i, .agg #[.int .i64 x, .int .i64 y]] w fun e w' => e = .returned (.int .i64 (setC l i (x, y))) ∧ CSet B w v c (setO l i (x, y)) w' := by
  rcases h.wi i with ⟨e, hn⟩ | ⟨g, t, hs, e, q, rfl, hi⟩
  · have e1 : setC l i (x, y) = 1 := by unfold setC; rw [if_pos hn]
    have e2 : setO l i (x, y) = l := by unfold setO; rw [if_neg (by rw [e1]; decide)]
    rw [e1, e2]
    exact hgset_step v (.pointer none) i 0 x y 1 w (fun w' a => by rw [← e]; exact hgwithin_any v c l i w' (h.later a)) (fun w' a => (sqset_range (.pointer none) .nil 0 x y w' (.inl ⟨rfl, rfl⟩) Ht.Fit.nil (by simp [Ht.hs])).mono fun e w'' ⟨k1, k2⟩ => ⟨k1, CSet.same h (a.trans k2)⟩) ⟨_, rfl⟩ h.slc
  · exact hgset_step v (.pointer (some ⟨g, 0, none⟩)) i i x y _ w (fun w' a => by rw [← e]; exact hgwithin_any v c _ i w' (h.later a)) (fun w' a => (qset_any g t i x y w' (q.later a)).mono fun e w'' ⟨k1, k2⟩ => ⟨k1, CSet.of h hs a k2⟩) ⟨_, rfl⟩ h.slc

/-! ### Seqs without heights taken out -/
theorem cut1_any (g : Nat) (t : Ht) (e : Bool) (w : World) (h : QAt B w g t) (he : decide (t.hs.length = 0) = e) : Calls Try.prog 66 #[.pointer (some ⟨g, 0, none⟩)] w fun u w' => u = .returned (.bool e) ∧ AnyLater w w' := by
  have HL := Lib.hid (fun (w' : World) (a : AnyLater w w') => sqlen_any (.pointer (some ⟨g, 0, none⟩)) t w' (h.q.nil_or.later a) h.fit)
  have HE : Hid (((t.hs.length : Int) == 0) = e) := Lib.hid (by rw [← he]; cases hd : decide (t.hs.length = 0) <;> simp_all)
  clear h he
  generalize t.hs.length = n at *
  go_enter Try.func66, Try.ntmps66
  go_wp2_with fail
  refine (HL.out _ (AnyLater.refl w)).mono ?_
  rintro u w1 ⟨rfl, b1⟩
  have HB := Lib.hid b1
  have hE := HE.out
  clear b1
  go_wp2_with fail
  go_ret
  exact ⟨rfl, HB.out⟩
theorem cut1_enters : ∀ args w, (callFunc 66 args).run Try.prog w = .ok (.enter 66 args) w := enters_of Try.func66 (by kernel_rfl) rfl
set_option maxRecDepth 100000 in
theorem hgix_none (A : Option Addr) (cap : Nat) (w : World) : Calls Try.prog 82 #[.slice A 0 cap, .func (.func 66) #[] #[]] w fun u w' => u = .returned (.int .i64 (-1)) ∧ AnyLater w w' := by
  go_enter Try.func82, Try.ntmps82
  go_wp2_with fail
  refine wp_loop_rounds 1 ?_
  rw [rounds_succ]
  go_wp2_with fail
  go_ret
  exact ⟨rfl, AnyLater.refl w⟩
set_option maxRecDepth 100000 in
theorem hgix_one (b cap g : Nat) (t : Ht) (w : World) (h : ChOne B w b g t) : Calls Try.prog 82 #[.slice (some ⟨b, 0, none⟩) 1 cap, .func (.func 66) #[] #[]] w fun u w' => u = .returned (.int .i64 (if t.hs.length = 0 then 0 else -1)) ∧ AnyLater w w' := by
  have hen := cut1_enters
  have c1 := h.cell
  by_cases h0 : t.hs.length = 0
  · have H1 := Lib.hid (fun (w' : World) (a : AnyLater w w') => cut1_any g t true w' (h.q.later a) (decide_eq_true h0))
    rw [if_pos h0]
    clear h h0
    go_enter Try.func82, Try.ntmps82
    go_wp2_with fail
    refine wp_loop_rounds 2 ?_
    rw [rounds_succ]
    go_wp2_with fail
    refine (H1.out _ (AnyLater.refl w)).mono ?_
    rintro u w1 ⟨rfl, b1⟩
    have HB := Lib.hid b1
    clear b1
    go_wp2_with fail
    go_ret
    exact ⟨rfl, HB.out⟩
  · have H1 := Lib.hid (fun (w' : World) (a : AnyLater w w') => cut1_any g t false w' (h.q.later a) (decide_eq_false h0))
    rw [if_neg h0]
    clear h h0
    go_enter Try.func82, Try.ntmps82
    go_wp2_with fail
    refine wp_loop_rounds 2 ?_
    rw [rounds_succ]
    go_wp2_with fail
    refine (H1.out _ (AnyLater.refl w)).mono ?_
    rintro u w1 ⟨rfl, b1⟩
    have HB := Lib.hid b1
    clear b1
    go_wp2_with fail
    rw [rounds_succ]
    go_wp2_with fail
    go_ret
    exact ⟨rfl, HB.out⟩
set_option maxRecDepth 100000 in
theorem size_sp (w : World) : (Go.sizeOf (Try.prog.elem 66)).run Try.prog w = .ok 1 w := by simp [go_sem]
set_option maxRecDepth 100000 in
/-- v[:i] -/
theorem sp_upto (A : Option Addr) (n cap i : Nat) (h2 : i ≤ cap) (w : World) : (Instr.sliceAt 66 (.slice A n cap) none (some (.int .i64 (i : Int))) none).run Try.prog w = .ok (.slice A i cap) w := by
  have eA : (if cap = 0 then A else A.map (fun x => x.add 0)) = A := by
    split
    · rfl
    · cases A with
      | none => rfl
      | some a => simp [Addr.add]
  rw [run_sliceAt_slice w _ _ _ _ _ Try.underlying66, run_slice_h w _ A n cap Try.underlying66 .i64 (i : Int) (by omega) (by omega)]
  rw [size_sp]
  simp only [Result.andThen, sliced, Int.toNat_natCast, Nat.sub_zero, Nat.zero_mul]
  rw [eA]
set_option maxRecDepth 100000 in
/-- v[i:] -/
theorem sp_from (g o n cap i : Nat) (h1 : i ≤ n) (h2 : n ≤ cap) (w : World) : (Instr.sliceAt 66 (.slice (some ⟨g, o, none⟩) n cap) (some (.int .i64 (i : Int))) none none).run Try.prog w = .ok (.slice (some ⟨g, if cap = i then o else o + i, none⟩) (n - i) (cap - i)) w := by
  rw [run_sliceAt_slice w _ _ _ _ _ Try.underlying66, run_slice_l w _ (some ⟨g, o, none⟩) n cap Try.underlying66 .i64 (i : Int) (by omega) (by omega)]
  rw [size_sp]
  simp only [Result.andThen, sliced, Int.toNat_natCast, Nat.mul_one]
  split
  · rfl
  · rw [Option.map_some, addr_add]
set_option maxRecDepth 100000 in
theorem hgdel_none (A : Option Addr) (cap : Nat) (w : World) : Calls Try.prog 65 #[.slice A 0 cap, .func (.func 66) #[] #[]] w fun u w' => u = .returned (.slice A 0 cap) ∧ AnyLater w w' := by
  have HX := Lib.hid (fun (w' : World) => hgix_none A cap w')
  go_enter Try.func65, Try.ntmps65
  go_wp2_with fail
  refine (HX.out _).mono ?_
  rintro e w1 ⟨rfl, b_w1⟩
  have z_w1 := b_w1.below.size
  have a_w1 := b_w1
  go_wp2_with fail
  go_ret
  exact ⟨rfl, a_w1⟩
set_option maxRecDepth 100000 in
theorem hgdel_keep (b cap g : Nat) (t : Ht) (w : World) (h : ChOne B w b g t) (h0 : t.hs.length ≠ 0) : Calls Try.prog 65 #[.slice (some ⟨b, 0, none⟩) 1 cap, .func (.func 66) #[] #[]] w fun u w' => u = .returned (.slice (some ⟨b, 0, none⟩) 1 cap) ∧ AnyLater w w' := by
  have HX := Lib.hid (fun (w' : World) (a : AnyLater w w') => hgix_one b cap g t w' (h.later a))
  rw [if_neg h0] at HX
  clear h h0
  go_enter Try.func65, Try.ntmps65
  go_wp2_with fail
  refine (HX.out _ (AnyLater.refl w)).mono ?_
  rintro e w1 ⟨rfl, b_w1⟩
  have z_w1 := b_w1.below.size
  have a_w1 := b_w1
  go_wp2_with fail
  go_ret
  exact ⟨rfl, a_w1⟩
theorem zero_sp : ∀ w, (zeroValue 75).run Try.prog w = .ok (.pointer none) w := fun w => by simp [go_sem]
set_option maxRecDepth 100000 in
theorem hgdel_drop (b cap g : Nat) (t : Ht) (cur : Array Value) (w : World) (h : ChOne B w b g t) (h0 : t.hs.length = 0) (hb : w.heap[b]? = some (.cells cur 75)) (hc : 1 ≤ cap) (hs : cur.size = cap) : Calls Try.prog 65 #[.slice (some ⟨b, 0, none⟩) 1 cap, .func (.func 66) #[] #[]] w fun u w' => u = .returned (.slice (some ⟨b, 0, none⟩) 0 cap) ∧ ∃ w1, AnyLater w w1 ∧ w' = w1.setCell ⟨b, 0, none⟩ (.pointer none) := by
  have HX := Lib.hid (fun (w' : World) (a : AnyLater w w') => hgix_one b cap g t w' (h.later a))
  rw [if_pos h0] at HX
  have s1 := sp_from b 0 1 cap 0 (by omega) hc
  have s2 := sp_upto (some ⟨b, 0, none⟩) 1 cap 0 (by omega)
  rw [if_neg (by omega)] at s1
  have HCL := Lib.hid (fun (w1 : World) (a : AnyLater w w1) (ty : TypeId) => Lib.run_clear_slice (P := Try.prog) w1 66 75 ty (.pointer none) Try.underlying66 zero_sp rfl rfl b 0 1 cap (by omega) (fun k hk => by
    obtain rfl : k = 0 := by omega
    rw [Nat.zero_add, (h.later a).cell]; rfl) (fun k hk => by rw [Nat.zero_add]; exact own_free (any_own a hb) _))
  clear h h0 hb hs
  go_enter Try.func65, Try.ntmps65
  go_wp2_with fail
  refine (HX.out _ (AnyLater.refl w)).mono ?_
  rintro e w1 ⟨rfl, b_w1⟩
  have z_w1 := b_w1.below.size
  have a_w1 := b_w1
  have hcl := HCL.out w1 a_w1
  go_wp2_with fail
  refine wp_loop_rounds 1 ?_
  rw [rounds_succ]
  go_wp2_with fail
  go_ret
  exact ⟨rfl, w1, a_w1, rfl⟩
end Go.Proofs.Ytjoadlfkdkeomaa
namespace Go.Proofs.Ytjoadlfkdkeomaa
set_option linter.unusedSimpArgs false
set_option linter.unusedVariables false
set_option linter.unusedSectionVars false
open Go.RowKit
variable {B : Nat}

/-- a chain in the k-th field of the block hg, cut or grown: its heights are l now; the field, its row, and its Seq's own block alone are others -/
def PDone (B : Nat) (w : World) (hg k : Nat) (cs : Array Value) (c : Cw) (l : Qs) (w' : World) : Prop := ∃ v' c', w'.heap[hg]? = some (.cells (cs.setIfInBounds k v') 70) ∧ IsCh B w' v' c' l ∧ (∀ b ∈ c'.bl, b ∈ c.bl ∨ w.heap.size ≤ b) ∧ (∀ b, InR c' b → InR c b ∨ w.heap.size ≤ b) ∧ Stays (fun b => b = hg ∨ InR c b) w w'
theorem heights_row {w : World} {v : Value} {c : Cw} {l : Qs} {hg : Nat} {cs : Array Value} (h : IsCh B w v c l) (hh : w.heap[hg]? = some (.cells cs 70)) : ¬ InR c hg := by
  intro k
  rcases k with k | ⟨g, t, k1, rfl⟩
  · obtain ⟨_, cs', e⟩ := h.rowAt k
    rw [hh] at e; cases e
  · obtain ⟨rv, e, _⟩ := (h.seqAt k1).1.obj
    rw [hh] at e; cases e
theorem heights_blk {w : World} {v : Value} {c : Cw} {l : Qs} {hg : Nat} {cs : Array Value} (h : IsCh B w v c l) (hh : w.heap[hg]? = some (.cells cs 70)) : ¬ InC w c hg := by
  intro k
  rcases k with k | ⟨g, t, k1, k2⟩
  · obtain ⟨_, cs', e⟩ := h.rowAt k
    rw [hh] at e; cases e
  · rcases k2.kinds (h.seqAt k1).1 with ⟨_, rv, e2⟩ | ⟨_, cs, e2⟩ | ⟨_, cs, e2⟩
    · rw [hh] at e2; cases e2
    · rw [hh] at e2; cases e2
    · rw [hh] at e2; cases e2
theorem set_same {cs : Array Value} {k : Nat} {v : Value} (h : cs[k]? = some v) : cs.setIfInBounds k v = cs := by
  apply Array.ext_getElem?
  intro i
  rw [Array.getElem?_setIfInBounds]
  split
  · rename_i e
    subst e
    obtain ⟨hk, e2⟩ := Array.getElem?_eq_some_iff.1 h
    rw [if_pos hk, h]
  · rfl
/-- nothing has changed but the Seq's own block -/
theorem IsCh.own {w w1 w2 w' : World} {g : Nat} {v : Value} {c : Cw} {l l2 : Qs} {t : Ht} (h : IsCh B w v c l) (hs : c.sq = some (g, t)) (a : AnyLater w w1) (q : QOwn B w1 g t l2 w2) (a2 : AnyLater w2 w') : ∃ t', t'.hs = l2 ∧ IsCh B w' v ⟨c.row, some (g, t')⟩ l2 ∧ (∀ b ∈ (⟨c.row, some (g, t')⟩ : Cw).bl, b ∈ c.bl ∨ w.heap.size ≤ b) ∧ (∀ b, InR ⟨c.row, some (g, t')⟩ b → InR c b ∨ w.heap.size ≤ b) ∧ Stays (fun b => b = g) w w' := by
  obtain ⟨⟨t', k1, k2, k3⟩, st⟩ := q
  have hst : Stays (fun b => b = g) w w' := ((Stays.of a).trans st).trans (.of a2)
  refine ⟨t', k2, ⟨h.1, .inr ⟨g, t', rfl, k2, k1.later a2, own_row_stays (h.row_own hs) hst (fun b hb hc => ?_)⟩⟩, fun b hb => ?_, fun b hb => .inl ?_, hst⟩
  · rw [h.1] at hb
    obtain ⟨_, cs', e⟩ := h.rowAt hb
    obtain ⟨rv, e2, _⟩ := (h.seqAt hs).1.obj
    subst hc
    rw [e] at e2; cases e2
  · unfold Cw.bl at hb ⊢
    rw [hs]
    simp only [List.mem_append, List.mem_cons] at hb ⊢
    rcases hb with hb | hb | hb
    · exact .inl (.inl hb)
    · exact .inl (.inr (.inl hb))
    · rcases k3 b hb with q | q
      · exact .inl (.inr (.inr q))
      · exact .inr (Nat.le_trans a.below.size q)
  · rcases hb with hb | ⟨g', t'', e, e2⟩
    · exact .inl hb
    · exact .inr ⟨g, t, hs, e2.trans (Prod.mk.inj (Option.some.inj e)).1.symm⟩
theorem PDone.own {w w1 w2 w' : World} {hg k g : Nat} {cs : Array Value} {v : Value} {c : Cw} {l l2 : Qs} {t : Ht} (h : IsCh B w v c l) (hs : c.sq = some (g, t)) (hh : w.heap[hg]? = some (.cells cs 70)) (hk : cs[k]? = some v) (a : AnyLater w w1) (q : QOwn B w1 g t l2 w2) (a2 : AnyLater w2 w') : PDone B w hg k cs c l2 w' := by
  obtain ⟨t', _, k2, k3, k4, hst⟩ := h.own hs a q a2
  have hng : hg ≠ g := fun e => by
    obtain ⟨rv, e2, _⟩ := (h.seqAt hs).1.obj
    subst e
    rw [hh] at e2; cases e2
  exact ⟨v, ⟨c.row, some (g, t')⟩, by rw [set_same hk]; exact hst.own hh hng, k2, k3, k4, hst.wide (fun b _ hb => .inr (.inr ⟨g, t, hs, hb⟩))⟩
/-- what is left of a row of one Seq, when those without heights are out -/
def Outs (b cap : Nat) (l : Qs) (w : World) (u : Ending) (w' : World) : Prop := ∃ n, u = .returned (.slice (some ⟨b, 0, none⟩) n cap) ∧ ((n = 1 ∧ AnyLater w w') ∨ (n = 0 ∧ l = [] ∧ ∃ w1, AnyLater w w1 ∧ w' = w1.setCell ⟨b, 0, none⟩ (.pointer none)))
theorem hgdel_any (b cap g : Nat) (t : Ht) (cur : Array Value) (w : World) (h : ChOne B w b g t) (hb : w.heap[b]? = some (.cells cur 75)) (hc : 1 ≤ cap) (hs : cur.size = cap) : Calls Try.prog 65 #[.slice (some ⟨b, 0, none⟩) 1 cap, .func (.func 66) #[] #[]] w (Outs b cap t.hs w) := by
  by_cases h0 : t.hs.length = 0
  · refine (hgdel_drop b cap g t cur w h h0 hb hc hs).mono ?_
    rintro u w' ⟨rfl, w1, a, e⟩
    exact ⟨0, rfl, .inr ⟨rfl, List.eq_nil_of_length_eq_zero h0, w1, a, e⟩⟩
  · refine (hgdel_keep b cap g t w h h0).mono ?_
    rintro u w' ⟨rfl, a⟩
    exact ⟨1, rfl, .inl ⟨rfl, a⟩⟩
/-- heights taken away, the Seq taken out if it has none, and the chain's parts written -/
theorem PDone.outs {w w1 w2 w3 : World} {hg k g b cap n : Nat} {cs : Array Value} {c : Cw} {l l2 : Qs} {t : Ht} (h : IsCh B w (.slice (some ⟨b, 0, none⟩) 1 cap) c l) (hs : c.sq = some (g, t)) (hh : w.heap[hg]? = some (.cells cs 70)) (a : AnyLater w w1) (q : QOwn B w1 g t l2 w2) (ho : (n = 1 ∧ AnyLater w2 w3) ∨ (n = 0 ∧ l2 = [] ∧ ∃ w1, AnyLater w2 w1 ∧ w3 = w1.setCell ⟨b, 0, none⟩ (.pointer none))) : PDone B w hg k cs c l2 (w3.setCell ⟨hg, k, none⟩ (.slice (some ⟨b, 0, none⟩) n cap)) := by
  have hrow : c.row = some b := h.1.symm
  have hng : hg ≠ g := fun e => by
    obtain ⟨rv, e2, _⟩ := (h.seqAt hs).1.obj
    subst e
    rw [hh] at e2; cases e2
  have hnb : hg ≠ b := fun e => by
    obtain ⟨_, cs', e2⟩ := h.rowAt hrow
    rw [e, e2] at hh; cases hh
  rcases ho with ⟨rfl, a3⟩ | ⟨rfl, rfl, w4, a4, rfl⟩
  · obtain ⟨t', _, k2, k3, k4, hst⟩ := h.own hs a q a3
    have h3 : w3.heap[hg]? = some (.cells cs 70) := hst.own hh hng
    have hst2 : Stays (fun x => x = hg) w3 (w3.setCell ⟨hg, k, none⟩ (.slice (some ⟨b, 0, none⟩) 1 cap)) := (Stays.refl _ _).setCell (S := fun x => x = hg) rfl _
    refine ⟨_, ⟨c.row, some (g, t')⟩, heap_at h3 rfl, k2.stays hst2 (fun b hb e => heights_blk k2 h3 (e ▸ hb)), k3, k4, (hst.wide (S' := fun x => x = hg ∨ InR c x) (fun b _ hb => .inr (.inr ⟨g, t, hs, hb⟩))).more hst2 (fun x hx => .inl (.inl hx))⟩
  · obtain ⟨t', _, k2, k3, k4, hst⟩ := h.own hs a q a4
    have h3 : w4.heap[hg]? = some (.cells cs 70) := hst.own hh hng
    have h4 : (w4.setCell ⟨b, 0, none⟩ (.pointer none)).heap[hg]? = some (.cells cs 70) := heap_far hnb h3
    obtain ⟨b', cap', cur, e, e2, e3, e4, _, e5, e6, e7⟩ := k2.one_form rfl
    cases e
    have h5 : ((w4.setCell ⟨b, 0, none⟩ (.pointer none)).setCell ⟨hg, k, none⟩ (.slice (some ⟨b, 0, none⟩) 0 cap)).heap[b]? = some (.cells (cur.setIfInBounds 0 (.pointer none)) 75) := heap_far (fun e => hnb e.symm) (heap_at e4 rfl)
    refine ⟨_, ⟨c.row, none⟩, heap_at h4 rfl, ⟨h.1, .inl ⟨rfl, rfl, rfl, .inr ⟨b, cap, _, rfl, e3, h5, Nat.zero_le _, e6, by simp [e7], by simp⟩⟩⟩, fun x hx => .inl ?_, fun x hx => .inl ?_, ?_⟩
    · unfold Cw.bl at hx ⊢
      simp only [List.append_nil] at hx
      exact List.mem_append_left _ hx
    · rcases hx with hx | ⟨g', t'', e, _⟩
      · exact .inl hx
      · cases e
    · exact ((hst.wide (S' := fun x => x = hg ∨ InR c x) (fun b _ hb => .inr (.inr ⟨g, t, hs, hb⟩))).setCell (.inr (.inl hrow)) _).setCell (.inl rfl) _

/-! ### heights taken away -/
set_option maxRecDepth 100000 in
theorem hgcut_none (hg k : Nat) (cs : Array Value) (A : Option Addr) (cap : Nat) (c : Cw) (i : Int) (n : Int) (w : World) (hh : w.heap[hg]? = some (.cells cs 70)) (hk : cs[k]? = some (.slice A 0 cap)) (h : IsCh B w (.slice A 0 cap) c []) :
    Calls Try.prog 51 #[.pointer (some ⟨hg, k, none⟩), .int .i64 i, .int .i64 n] w fun e w' => e = .returned (.tuple #[]) ∧ PDone B w hg k cs c [] w' := by
  have HD := Lib.hid (fun (w' : World) => hgdel_none A cap w')
  have HE : Hid (∀ w1, AnyLater w w1 → PDone B w hg k cs c [] (w1.setCell ⟨hg, k, none⟩ (.slice A 0 cap))) := Lib.hid (fun w1 a => by
    have hst : Stays (fun b => b = hg) w (w1.setCell ⟨hg, k, none⟩ (.slice A 0 cap)) := (Stays.of a).setCell (S := fun b => b = hg) rfl _
    refine ⟨_, c, heap_at (any_own a hh) rfl, h.stays hst (fun b hb e => heights_blk h hh (e ▸ hb)), fun b hb => .inl hb, fun b hb => .inl hb, hst.wide (fun b _ e => .inl e)⟩)
  have r0 := own_row hh
  have f0 := own_free hh
  have l0 := own_lt hh
  have s0_w := hh
  clear h hh
  go_enter Try.func51, Try.ntmps51
  go_wp2_with fail
  refine wp_loop_rounds 1 ?_
  rw [rounds_succ]
  go_wp2_with fail
  refine (HD.out _).mono ?_
  rintro e w1 ⟨rfl, b_w1⟩
  have r1 := own_row (any_own b_w1 s0_w)
  have f1 := own_free (any_own b_w1 s0_w)
  have l1 := own_lt (any_own b_w1 s0_w)
  have HZ := Lib.hid (HE.out w1 b_w1)
  clear r0 f0 l0 s0_w
  go_wp2_with fail
  go_end0
  exact ⟨rfl, HZ.out⟩
set_option maxRecDepth 100000 in
set_option maxHeartbeats 800000 in
theorem hgcut_in (hg k : Nat) (cs : Array Value) (b cap g : Nat) (t : Ht) (c : Cw) (i n : Nat) (w : World) (hh : w.heap[hg]? = some (.cells cs 70)) (hk : cs[k]? = some (.slice (some ⟨b, 0, none⟩) 1 cap)) (h : IsCh B w (.slice (some ⟨b, 0, none⟩) 1 cap) c t.hs) (hs : c.sq = some (g, t)) (hi : i < t.hs.length) (hn : i + n ≤ t.hs.length) :
    Calls Try.prog 51 #[.pointer (some ⟨hg, k, none⟩), .int .i64 (i : Int), .int .i64 (n : Int)] w fun e w' => e = .returned (.tuple #[]) ∧ PDone B w hg k cs c (t.hs.take i ++ t.hs.drop (i + n)) w' := by
  obtain ⟨b', cap', cur, e, e2, e3, e4, e5, e6, e7, e8⟩ := h.one_form hs
  cases e
  obtain ⟨hq, -⟩ := h.seqAt hs
  have hm := hq.ok.most
  have hone : ChOne B w b g t := ⟨by rw [own_row e4]; exact e5, own_lt e4, hq⟩
  have hng : hg ≠ g := fun e => by
    obtain ⟨rv, e2, _⟩ := hq.obj
    subst e
    rw [hh] at e2; cases e2
  have hbg : b ≠ g := fun e => by
    obtain ⟨rv, e2, _⟩ := hq.obj
    subst e
    rw [e4] at e2; cases e2
  have HL := Lib.hid (fun (w' : World) (a : AnyLater w w') => sqlen_any (.pointer (some ⟨g, 0, none⟩)) t w' (hq.q.nil_or.later a) hq.fit)
  have HQ := Lib.hid (fun (w' : World) (a : AnyLater w w') => qdel_yes g t i n w' (hq.later a) hn)
  have HM : Hid (∀ (w1 w2 : World), AnyLater w w1 → QOwn B w1 g t (t.hs.take i ++ t.hs.drop (i + n)) w2 → w2.heap[hg]? = some (.cells cs 70) ∧ Calls Try.prog 65 #[.slice (some ⟨b, 0, none⟩) 1 cap, .func (.func 66) #[] #[]] w2 (Outs b cap (t.hs.take i ++ t.hs.drop (i + n)) w2)) := Lib.hid (fun w1 w2 a q => by
    obtain ⟨⟨t', k1, k2, k3⟩, st⟩ := id q
    have e9 : w2.heap[b]? = some (.cells cur 75) := st.own (any_own a e4) hbg
    refine ⟨st.own (any_own a hh) hng, ?_⟩
    rw [← k2]
    exact hgdel_any b cap g t' cur w2 ⟨by rw [own_row e9]; exact e5, own_lt e9, k1⟩ e9 e6 e8)
  have HZ : Hid (∀ (w1 w2 w3 : World) (m : Nat), AnyLater w w1 → QOwn B w1 g t (t.hs.take i ++ t.hs.drop (i + n)) w2 → ((m = 1 ∧ AnyLater w2 w3) ∨ (m = 0 ∧ t.hs.take i ++ t.hs.drop (i + n) = [] ∧ ∃ w1, AnyLater w2 w1 ∧ w3 = w1.setCell ⟨b, 0, none⟩ (.pointer none))) → PDone B w hg k cs c (t.hs.take i ++ t.hs.drop (i + n)) (w3.setCell ⟨hg, k, none⟩ (.slice (some ⟨b, 0, none⟩) m cap)) ∧ w3.heap[hg]? = some (.cells cs 70)) := Lib.hid (fun w1 w2 w3 m a q ho => by
    refine ⟨PDone.outs h hs hh a q ho, ?_⟩
    have h2 : w2.heap[hg]? = some (.cells cs 70) := q.2.own (any_own a hh) hng
    rcases ho with ⟨-, a3⟩ | ⟨-, -, w4, a4, rfl⟩
    · exact any_own a3 h2
    · exact heap_far (fun e => by rw [e, e4] at hh; cases hh) (any_own a4 h2))
  have c1 := hone.cell
  have s0_w := hh
  have r0_w := own_row hh
  have f0_w := own_free hh
  have l0_w := own_lt hh
  have HC := Lib.hid hone
  clear h hs hh hq hone e2 e3 e4 e5 e6 e7 e8 hng hbg
  generalize t.hs.take i ++ t.hs.drop (i + n) = l2 at *
  generalize t.hs.length = m at *
  have hmn : ∀ (w : World) (ts : Array TypeId) (ty : TypeId), (Builtin.min_ ts ty #[.int .i64 (n : Int), .int .i64 ((m : Int) - (i : Int))]).run Try.prog w = .ok (.int .i64 (n : Int)) w := fun w ts ty => by rw [hrun_min, Int.min_eq_left (by omega)]
  have hmn2 : ∀ (w : World) (ts : Array TypeId) (ty : TypeId), (Builtin.min_ ts ty #[.int .i64 (i : Int), .int .i64 (m : Int)]).run Try.prog w = .ok (.int .i64 (i : Int)) w := fun w ts ty => by rw [hrun_min, Int.min_eq_left (by omega)]
  go_enter Try.func51, Try.ntmps51
  go_wp2_with fail
  refine wp_loop_rounds 2 ?_
  rw [rounds_succ]
  go_wp2_with fail
  refine (HL.out _ (AnyLater.refl w)).mono ?_
  rintro e w1 ⟨rfl, b_w1⟩
  have z_w1 := b_w1.below.size
  have a_w1 := b_w1
  have s0_w1 := any_own b_w1 s0_w
  have r0_w1 := own_row s0_w1
  have f0_w1 := own_free s0_w1
  have l0_w1 := own_lt s0_w1
  (try clear r0_w); (try clear f0_w)
  go_wp2_with fail
  refine (HQ.out _ a_w1).mono ?_
  rintro e w2 ⟨rfl, q⟩
  obtain ⟨s0_w2, hd⟩ := HM.out _ _ a_w1 q
  have HD := Lib.hid hd
  have HQ2 := Lib.hid q
  have HA1 := Lib.hid a_w1
  have r0_w2 := own_row s0_w2
  have f0_w2 := own_free s0_w2
  have l0_w2 := own_lt s0_w2
  clear q hd r0_w1 f0_w1 l0_w1 s0_w1 c1
  (try clear r0_w); (try clear f0_w); (try clear l0_w); (try clear s0_w)
  go_wp2_with fail
  rw [rounds_succ]
  go_wp2_with fail
  refine HD.out.mono ?_
  rintro e w3 ⟨m2, rfl, ho⟩
  obtain ⟨hz, s0_w3⟩ := HZ.out _ _ _ _ HA1.out HQ2.out ho
  have HE := Lib.hid hz
  have r0_w3 := own_row s0_w3
  have f0_w3 := own_free s0_w3
  have l0_w3 := own_lt s0_w3
  clear hz ho r0_w2 f0_w2 l0_w2 s0_w2
  go_wp2_with fail
  go_end0
  exact ⟨rfl, HE.out⟩
set_option maxRecDepth 100000 in
set_option maxHeartbeats 800000 in
theorem hgcut_out (hg k : Nat) (cs : Array Value) (b cap g : Nat) (t : Ht) (c : Cw) (w : World) (hh : w.heap[hg]? = some (.cells cs 70)) (hk : cs[k]? = some (.slice (some ⟨b, 0, none⟩) 1 cap)) (h : IsCh B w (.slice (some ⟨b, 0, none⟩) 1 cap) c t.hs) (hs : c.sq = some (g, t)) :
    Calls Try.prog 51 #[.pointer (some ⟨hg, k, none⟩), .int .i64 (t.hs.length : Int), .int .i64 0] w fun e w' => e = .returned (.tuple #[]) ∧ PDone B w hg k cs c t.hs w' := by
  obtain ⟨b', cap', cur, e, e2, e3, e4, e5, e6, e7, e8⟩ := h.one_form hs
  cases e
  obtain ⟨hq, -⟩ := h.seqAt hs
  have hm := hq.ok.most
  have hone : ChOne B w b g t := ⟨by rw [own_row e4]; exact e5, own_lt e4, hq⟩
  have HL := Lib.hid (fun (w' : World) (a : AnyLater w w') => sqlen_any (.pointer (some ⟨g, 0, none⟩)) t w' (hq.q.nil_or.later a) hq.fit)
  have HD := Lib.hid (fun (w' : World) (a : AnyLater w w') => hgdel_any b cap g t cur w' (hone.later a) (any_own a e4) e6 e8)
  have HZ : Hid (∀ (w2 w3 : World) (m : Nat), AnyLater w w2 → ((m = 1 ∧ AnyLater w2 w3) ∨ (m = 0 ∧ t.hs = [] ∧ ∃ w1, AnyLater w2 w1 ∧ w3 = w1.setCell ⟨b, 0, none⟩ (.pointer none))) → PDone B w hg k cs c t.hs (w3.setCell ⟨hg, k, none⟩ (.slice (some ⟨b, 0, none⟩) m cap)) ∧ w3.heap[hg]? = some (.cells cs 70)) := Lib.hid (fun w2 w3 m a ho => by
    refine ⟨PDone.outs h hs hh a (QOwn.same (hq.later a) (AnyLater.refl w2)) ho, ?_⟩
    rcases ho with ⟨-, a3⟩ | ⟨-, -, w4, a4, rfl⟩
    · exact any_own (a.trans a3) hh
    · exact heap_far (fun e => by rw [e, e4] at hh; cases hh) (any_own (a.trans a4) hh))
  have c1 := hone.cell
  have s0_w := hh
  have r0_w := own_row hh
  have f0_w := own_free hh
  have l0_w := own_lt hh
  clear h hs hh hq hone e2 e3 e4 e5 e6 e7 e8
  generalize t.hs = l2 at *
  generalize l2.length = m at *
  have hmn2 : ∀ (w : World) (ts : Array TypeId) (ty : TypeId), (Builtin.min_ ts ty #[.int .i64 (m : Int), .int .i64 (m : Int)]).run Try.prog w = .ok (.int .i64 (m : Int)) w := fun w ts ty => by rw [hrun_min, Int.min_eq_left (by omega)]
  have d0 : decide (m < m) = false := decide_eq_false (by omega)
  go_enter Try.func51, Try.ntmps51
  go_wp2_with fail
  refine wp_loop_rounds 2 ?_
  rw [rounds_succ]
  go_wp2_with fail
  refine (HL.out _ (AnyLater.refl w)).mono ?_
  rintro e w1 ⟨rfl, b_w1⟩
  have z_w1 := b_w1.below.size
  have a_w1 := b_w1
  have s0_w1 := any_own b_w1 s0_w
  have r0_w1 := own_row s0_w1
  have f0_w1 := own_free s0_w1
  have l0_w1 := own_lt s0_w1
  (try clear r0_w); (try clear f0_w)
  go_wp2_with fail
  rw [rounds_succ]
  go_wp2_with fail
  refine (HD.out _ a_w1).mono ?_
  rintro e w3 ⟨m2, rfl, ho⟩
  obtain ⟨hz, s0_w3⟩ := HZ.out _ _ _ a_w1 ho
  have HE := Lib.hid hz
  have r0_w3 := own_row s0_w3
  have f0_w3 := own_free s0_w3
  have l0_w3 := own_lt s0_w3
  clear hz ho r0_w1 f0_w1 l0_w1 s0_w1
  (try clear r0_w); (try clear f0_w); (try clear l0_w); (try clear s0_w)
  go_wp2_with fail
  go_end0
  exact ⟨rfl, HE.out⟩
/-- heights of a chain taken away -/
theorem hgcut_any (hg k : Nat) (cs : Array Value) (v : Value) (l : Qs) (c : Cw) (i n : Nat) (w : World) (hh : w.heap[hg]? = some (.cells cs 70)) (hk : cs[k]? = some v) (h : IsCh B w v c l) (hn : i + n ≤ l.length) :
    Calls Try.prog 51 #[.pointer (some ⟨hg, k, none⟩), .int .i64 (i : Int), .int .i64 (n : Int)] w fun e w' => e = .returned (.tuple #[]) ∧ PDone B w hg k cs c (l.take i ++ l.drop (i + n)) w' := by
  rcases h.cases with ⟨_, rfl, A, cap, rfl⟩ | ⟨b, cap, g, t, hs, rfl, k1, rfl⟩
  · rw [List.take_nil, List.drop_nil]
    exact hgcut_none hg k cs A cap c i n w hh hk h
  · by_cases hi : i < t.hs.length
    · exact hgcut_in hg k cs b cap g t c i n w hh hk h hs hi hn
    · obtain rfl : i = t.hs.length := by omega
      obtain rfl : n = 0 := by omega
      rw [Nat.add_zero, List.take_append_drop]
      exact hgcut_out hg k cs b cap g t c w hh hk h hs
end Go.Proofs.Ytjoadlfkdkeomaa
namespace Go.Proofs.Ytjoadlfkdkeomaa
set_option linter.unusedSimpArgs false
set_option linter.unusedVariables false
set_option linter.unusedSectionVars false
open Go.RowKit
variable {B : Nat}

theorem PDone.from {w w1 w' : World} {hg k : Nat} {cs : Array Value} {c : Cw} {l : Qs} (a : AnyLater w w1) (h : PDone B w1 hg k cs c l w') : PDone B w hg k cs c l w' := by
  obtain ⟨v', c', h1, h2, h3, h4, h5⟩ := h
  exact ⟨v', c', h1, h2, fun b hb => (h3 b hb).imp id (fun q => Nat.le_trans a.below.size q), fun b hb => (h4 b hb).imp id (fun q => Nat.le_trans a.below.size q), (Stays.of a).trans h5⟩
theorem info_sp : (Try.prog.info? 75).map (fun i => (i.zero, i.size, i.bytes)) = some (some (.pointer none), 1, 8) := by kernel_rfl
/-- append(c.parts, s) where there are no parts -/
theorem appSp {w : World} {v : Value} {g : Nat} (ho : w.ownsRow B 75 1 v 0 []) (hB : B ≤ w.heap.size) :
    ∃ b cap w3, (Builtin.append_ #[66, 66] 66 #[v, .slice (some ⟨w.heap.size, 0, none⟩) 1 1]).run Try.prog (w.alloc (.cells #[ptrV g] 75)) = .ok (.slice (some ⟨b, 0, none⟩) 1 cap) w3 ∧ w3.ownsRow B 75 1 (.slice (some ⟨b, 0, none⟩) 1 cap) 1 [ptrV g] ∧ Stays (fun x => v.ownBlock = some x) w w3 ∧ (v.ownBlock = some b ∨ w.heap.size ≤ b) := by
  obtain ⟨i0, hi0, hz0, hz1, hz2⟩ := info_parts info_sp
  have a1 : AnyLater w (w.alloc (.cells #[ptrV g] 75)) := (AnyLater.refl w).alloc _
  have hz : (w.alloc (.cells #[ptrV g] 75)).heap[w.heap.size]? = some (.cells #[ptrV g] 75) := heap_new rfl
  have ho2 : (w.alloc (.cells #[ptrV g] 75)).ownsRow B 75 1 v 0 [] := owns_later a1 ho
  obtain ⟨b, cap, w', k1, k2, k3, k4, k5⟩ := run_append_lies (P := Try.prog) (w := w.alloc (.cells #[ptrV g] 75)) 66 66 B 75 i0 (.pointer none) 1 8 Try.underlying66 hi0 hz0 hz1 hz2 rfl (by decide) v 0 [] ho2 ⟨w.heap.size, 0, none⟩ 1 1 [ptrV g] rfl (fun j u hj => by
      cases j with
      | zero =>
        cases hj
        rw [addr_add]
        exact (own_row hz 0).trans rfl
      | succ j => simp at hj) (by intro u hu; simp at hu; subst hu; rfl) (by decide) (by unfold maxLen; omega) (by omega) (Nat.le_trans hB a1.below.size) _ rfl
  refine ⟨b, cap, w', k1, k2, (Stays.of a1).trans (Stays.grown k3 (fun x e => e)), ?_⟩
  rcases k4 with k4 | k4
  · exact .inl k4
  · rw [World.size_alloc] at k4; exact .inr (by omega)
theorem PDone.added {w w2 w3 : World} {hg k g b cap : Nat} {cs : Array Value} {v : Value} {c : Cw} {t : Ht} (h : IsCh B w v c []) (hB : B ≤ w.heap.size) (hs : c.sq = none) (hh : w.heap[hg]? = some (.cells cs 70)) (a : AnyLater w w2) (hq : QAt w.heap.size w2 g t) (ho : w3.ownsRow B 75 1 (.slice (some ⟨b, 0, none⟩) 1 cap) 1 [ptrV g]) (st : Stays (fun x => v.ownBlock = some x) w2 w3) (hb : v.ownBlock = some b ∨ w2.heap.size ≤ b) : PDone B w hg k cs c t.hs (w3.setCell ⟨hg, k, none⟩ (.slice (some ⟨b, 0, none⟩) 1 cap)) ∧ w3.heap[hg]? = some (.cells cs 70) := by
  have h2 := h.later a
  have hnv : v.ownBlock ≠ some hg := fun e => by
    rw [h.1] at e
    obtain ⟨_, cs', e2⟩ := h.rowAt e
    rw [hh] at e2; cases e2
  have h3 : w3.heap[hg]? = some (.cells cs 70) := st.own (any_own a hh) hnv
  have hst2 : Stays (fun x => x = hg) w3 (w3.setCell ⟨hg, k, none⟩ (.slice (some ⟨b, 0, none⟩) 1 cap)) := (Stays.refl _ _).setCell (S := fun x => x = hg) rfl _
  have q3 : QAt w.heap.size w3 g t := hq.stays st (fun x hx e => by
    rw [h.1] at e
    obtain ⟨_, cs', e2⟩ := h2.rowAt e
    rcases hx.kinds hq with ⟨_, rv, e3⟩ | ⟨_, cs, e3⟩ | ⟨_, cs, e3⟩
    · rw [e2] at e3; cases e3
    · rw [e2] at e3; cases e3
    · rw [e2] at e3; cases e3)
  have c3 : IsCh B w3 (.slice (some ⟨b, 0, none⟩) 1 cap) ⟨some b, some (g, t)⟩ t.hs := ⟨rfl, .inr ⟨g, t, rfl, rfl, q3.mono hB, ho⟩⟩
  have hbr : c.row = some b ∨ w.heap.size ≤ b := by
    rw [← h.1]
    exact hb.imp id (fun q => Nat.le_trans a.below.size q)
  refine ⟨⟨_, ⟨some b, some (g, t)⟩, heap_at h3 rfl, c3.stays hst2 (fun x hx e => heights_blk c3 h3 (e ▸ hx)), fun x hx => ?_, fun x hx => ?_, ((Stays.of a).more (T := fun x => v.ownBlock = some x) (S := fun x => x = hg ∨ InR c x) st (fun x hx => .inl (.inr (.inl (by rw [← h.1]; exact hx))))).more hst2 (fun x hx => .inl (.inl hx))⟩, h3⟩
  · unfold Cw.bl at hx ⊢
    simp only [Option.toList_some, List.mem_append, List.mem_cons, List.not_mem_nil, or_false] at hx
    rcases hx with rfl | rfl | hx
    · rcases hbr with q | q
      · exact .inl (by rw [q]; simp)
      · exact .inr q
    · exact .inr hq.base
    · exact .inr (hq.bks_ge x hx)
  · rcases hx with hx | ⟨g', t', e, rfl⟩
    · cases hx
      exact hbr.imp .inl id
    · cases e
      exact .inr hq.base
set_option maxRecDepth 100000 in
set_option maxHeartbeats 800000 in
theorem hgadd_none (hg k : Nat) (cs : Array Value) (v u : Value) (c : Cw) (m : Qs) (w : World) (hh : w.heap[hg]? = some (.cells cs 70)) (hk : cs[k]? = some v) (h : IsCh B w v c []) (hB : B ≤ w.heap.size) (hs : c.sq = none) (hu : QR w u m) (hm : m.length ≤ 45000) (hb : m.any tlBad = false) :
    Calls Try.prog 68 #[.pointer (some ⟨hg, k, none⟩), u, .int .i64 16777216] w fun e w' => e = .returned (.tuple #[]) ∧ PDone B w hg k cs c m w' := by
  have HN := Lib.hid (fun (w' : World) (a : AnyLater w w') => sqnew_any u m w' (hu.later a) hm hb)
  have HP : Hid (∀ (w2 : World) (g : Nat) (t : Ht), AnyLater w w2 → QAt w.heap.size w2 g t → ∃ b cap w3, (Builtin.append_ #[66, 66] 66 #[v, .slice (some ⟨w2.heap.size, 0, none⟩) 1 1]).run Try.prog (w2.alloc (.cells #[.pointer (some ⟨g, 0, none⟩)] 75)) = .ok (.slice (some ⟨b, 0, none⟩) 1 cap) w3 ∧ PDone B w hg k cs c t.hs (w3.setCell ⟨hg, k, none⟩ (.slice (some ⟨b, 0, none⟩) 1 cap)) ∧ w3.heap[hg]? = some (.cells cs 70)) := Lib.hid (fun w2 g t a q => by
    have ho : w2.ownsRow B 75 1 v 0 [] := by
      rcases (h.later a).2 with ⟨_, _, h3⟩ | ⟨g', t', h1, _⟩
      · exact h3
      · rw [hs] at h1; cases h1
    obtain ⟨b, cap, w3, k1, k2, k3, k4⟩ := appSp (g := g) ho (Nat.le_trans hB a.below.size)
    obtain ⟨p1, p2⟩ := PDone.added (k := k) h hB hs hh a q k2 k3 k4
    exact ⟨b, cap, w3, k1, p1, p2⟩)
  obtain ⟨-, A, n0, rfl⟩ := h.none_form hs
  obtain ⟨A2, cap2, rfl, -⟩ := hu.form
  have s0_w := hh
  have r0_w := own_row hh
  have f0_w := own_free hh
  have l0_w := own_lt hh
  clear h hs hh hu hm hb hB
  go_enter Try.func68, Try.ntmps68
  go_wp2_with fail
  refine (HN.out _ (AnyLater.refl w)).mono ?_
  rintro e w1 ⟨g, t, rfl, b_w1, hq, rfl⟩
  obtain ⟨b, cap, w3, k1, p1, s0_w3⟩ := HP.out w1 g t b_w1 hq
  have K1 := Lib.hid k1
  have HZ := Lib.hid p1
  have s0_w1 := any_own b_w1 s0_w
  have r0_w1 := own_row s0_w1
  have f0_w1 := own_free s0_w1
  have l0_w1 := own_lt s0_w1
  have r0_w3 := own_row s0_w3
  have f0_w3 := own_free s0_w3
  have l0_w3 := own_lt s0_w3
  clear k1 p1 hq r0_w f0_w l0_w
  go_wp2_with (at_builtin; refine Lib.wpList_append_run _ rfl _ _ _ _ rfl _ _ rfl rfl _ _ K1.out ?_)
  exact bodyPost_ret (v := .tuple #[]) (by simp [results, Try.results68, go_sem]) rfl ⟨rfl, HZ.out⟩
set_option maxRecDepth 100000 in
set_option maxHeartbeats 800000 in
theorem hgadd_one (hg k : Nat) (cs : Array Value) (b cap g : Nat) (t : Ht) (u : Value) (c : Cw) (m : Qs) (w : World) (hh : w.heap[hg]? = some (.cells cs 70)) (hk : cs[k]? = some (.slice (some ⟨b, 0, none⟩) 1 cap)) (h : IsCh B w (.slice (some ⟨b, 0, none⟩) 1 cap) c t.hs) (hs : c.sq = some (g, t)) (hu : QR w u m) (hm : t.hs.length + m.length ≤ 45000) (hb : m.any tlBad = false) :
    Calls Try.prog 68 #[.pointer (some ⟨hg, k, none⟩), u, .int .i64 16777216] w fun e w' => e = .returned (.tuple #[]) ∧ PDone B w hg k cs c (t.hs ++ m) w' := by
  obtain ⟨b', cap', cur, e, e2, e3, e4, e5, e6, e7, e8⟩ := h.one_form hs
  cases e
  obtain ⟨hq, -⟩ := h.seqAt hs
  have HL := Lib.hid (fun (w' : World) (a : AnyLater w w') => sqlen_any (.pointer (some ⟨g, 0, none⟩)) t w' (hq.q.nil_or.later a) hq.fit)
  have HI := Lib.hid (fun (w' : World) (a : AnyLater w w') => qins_yes g u t t.hs.length m w' (hq.later a) (Nat.le_refl _) (hu.later a) hm hb)
  have HE : Hid (∀ (w1 w2 : World), AnyLater w w1 → QOwn B w1 g t (t.hs.take t.hs.length ++ m ++ t.hs.drop t.hs.length) w2 → PDone B w hg k cs c (t.hs ++ m) w2) := Lib.hid (fun w1 w2 a q => by
    rw [List.take_length, List.drop_length, List.append_nil] at q
    exact PDone.own h hs hh hk a q (AnyLater.refl _))
  obtain ⟨A2, cap2, rfl, -⟩ := hu.form
  have s0_w := hh
  have r0_w := own_row hh
  have f0_w := own_free hh
  have l0_w := own_lt hh
  have s1_w := e4
  have r1_w := own_row e4
  have f1_w := own_free e4
  have l1_w := own_lt e4
  unfold ptrV at e5
  have d0 : ¬ (16777216 : Int) < (t.hs.length : Int) + (m.length : Int) := by omega
  clear h hs hh hu hb e2 e3 e4 e6 e7 e8 hq
  generalize t.hs.take t.hs.length ++ m ++ t.hs.drop t.hs.length = l2 at *
  generalize t.hs ++ m = l3 at *
  generalize t.hs.length = n at *
  generalize m.length = n2 at *
  go_enter Try.func68, Try.ntmps68
  go_wp2_with fail
  refine (HL.out _ (AnyLater.refl w)).mono ?_
  rintro e w1 ⟨rfl, b_w1⟩
  have z_w1 := b_w1.below.size
  have a_w1 := b_w1
  have s0_w1 := any_own b_w1 s0_w
  have s1_w1 := any_own b_w1 s1_w
  have r0_w1 := own_row s0_w1
  have f0_w1 := own_free s0_w1
  have l0_w1 := own_lt s0_w1
  have r1_w1 := own_row s1_w1
  have f1_w1 := own_free s1_w1
  have l1_w1 := own_lt s1_w1
  (try clear r0_w); (try clear f0_w)
  (try clear r1_w); (try clear f1_w)
  go_wp2_with fail
  apply wp_region_free (16) [⟨14, 61, .int .i64 (n : Int), false, fun v _ => v = .int .i64 (n : Int)⟩] [] rfl (by kernel_rfl) (by kernel_rfl) (by kernel_rfl) (by simp) (by kernel_rfl)
  case hstab =>
    intro c hc
    simp only [List.mem_cons, List.not_mem_nil, or_false] at hc
    rcases hc with rfl
    · intro v x y hxy hv; exact hv
  case hfix =>
    intro c hc
    simp only [List.mem_cons, List.not_mem_nil, or_false] at hc
    rcases hc with rfl
    · exact .inr fun u x h => h
  case hlex =>
    intro U hU
    have q0 := own_row (any_own hU s0_w1)
    have q1 := own_row (any_own hU s1_w1)
    simp only [List.map_cons, List.map_nil, CA.act, actFrom, actOp, List.lookup, Nat.reduceBEq, Nat.reduceLeDiff, Nat.reduceAdd, if_false, if_true]
    repeat (go_big_quiet_step (fail))
    exact wpQuiet_nil rfl
  case hstep =>
    intro j hj o ho
    have hj2 : j = 0 := by simp at hj; omega
    rcases hj2 with rfl
    · cases ho
      refine ⟨rfl, fun g x hx hp => ?_⟩
      clear hp
      simp only [fillAll, Act.put, List.setIfInBounds_toArray, List.set_cons_zero, List.set_cons_succ]
      refine chain_go ?_ (free_fix (HL.out x (a_w1.trans hx)))
      first | (simp [go_sem, execOp]; done) | simp [go_sem, execOp, hcf]
  case htail =>
    intro g u hst hne
    have b_w2 : AnyLater w1 (later u) := ⟨u, rfl⟩
    generalize later u = w2 at *
    clear u
    clear hst hne
    simp only [fillAll, Act.put, List.setIfInBounds_toArray, List.set_cons_zero, List.set_cons_succ, List.drop_succ_cons, List.drop_zero, List.drop_nil]
    have z_w2 := b_w2.below.size
    have a_w2 := a_w1.trans b_w2
    have s0_w2 := any_own b_w2 s0_w1
    have s1_w2 := any_own b_w2 s1_w1
    have r0_w2 := own_row s0_w2
    have f0_w2 := own_free s0_w2
    have l0_w2 := own_lt s0_w2
    have r1_w2 := own_row s1_w2
    have f1_w2 := own_free s1_w2
    have l1_w2 := own_lt s1_w2
    (try clear r0_w1); (try clear f0_w1)
    (try clear r1_w1); (try clear f1_w1)
    go_wp2_with fail
    refine (HI.out _ a_w2).mono ?_
    rintro e w3 ⟨rfl, q⟩
    have HZ := Lib.hid (HE.out _ _ a_w2 q)
    clear q
    go_wp2_with fail
    go_end0
    exact ⟨rfl, HZ.out⟩
set_option maxRecDepth 100000 in
set_option maxHeartbeats 800000 in
theorem hgput_end (hg k : Nat) (cs : Array Value) (v u : Value) (l l2 : Qs) (c : Cw) (w : World) (hh : w.heap[hg]? = some (.cells cs 70)) (hk : cs[k]? = some v) (h : IsCh B w v c l) (hu : ∃ A n cap, u = .slice A n cap)
    (HA : ∀ w', AnyLater w w' → Calls Try.prog 68 #[.pointer (some ⟨hg, k, none⟩), u, .int .i64 16777216] w' fun e w'' => e = .returned (.tuple #[]) ∧ PDone B w' hg k cs c l2 w'') :
    Calls Try.prog 53 #[.pointer (some ⟨hg, k, none⟩), .int .i64 (l.length : Int), u, .int .i64 16777216] w fun e w' => e = .returned (.tuple #[]) ∧ PDone B w hg k cs c l2 w' := by
  have HL := Lib.hid (fun (w' : World) (a : AnyLater w w') => hgsize_any v c l w' (h.later a))
  have HA := Lib.hid HA
  obtain ⟨A, n0, cap0, rfl⟩ := h.slc
  obtain ⟨A2, n2, cap2, rfl⟩ := hu
  have s0_w := hh
  have r0_w := own_row hh
  have f0_w := own_free hh
  have l0_w := own_lt hh
  clear h hh
  generalize l.length = n at *
  go_enter Try.func53, Try.ntmps53
  go_wp2_with fail
  refine (HL.out _ (AnyLater.refl w)).mono ?_
  rintro e w1 ⟨rfl, b_w1⟩
  have z_w1 := b_w1.below.size
  have a_w1 := b_w1
  have s0_w1 := any_own b_w1 s0_w
  have r0_w1 := own_row s0_w1
  have f0_w1 := own_free s0_w1
  have l0_w1 := own_lt s0_w1
  (try clear r0_w); (try clear f0_w)
  go_wp2_with fail
  refine (HA.out _ a_w1).mono ?_
  rintro e w2 ⟨rfl, q⟩
  have HZ := Lib.hid (PDone.from a_w1 q)
  clear q
  go_wp2_with fail
  exact bodyPost_ret (v := .tuple #[]) (by simp [results, Try.results53, go_sem]) rfl ⟨rfl, HZ.out⟩
set_option maxRecDepth 100000 in
set_option maxHeartbeats 800000 in
theorem hgput_in (hg k : Nat) (cs : Array Value) (b cap g i : Nat) (t : Ht) (u : Value) (c : Cw) (m : Qs) (w : World) (hh : w.heap[hg]? = some (.cells cs 70)) (hk : cs[k]? = some (.slice (some ⟨b, 0, none⟩) 1 cap)) (h : IsCh B w (.slice (some ⟨b, 0, none⟩) 1 cap) c t.hs) (hs : c.sq = some (g, t)) (hi : i < t.hs.length) (hu : QR w u m) (hm : t.hs.length + m.length ≤ 45000) (hb : m.any tlBad = false) :
    Calls Try.prog 53 #[.pointer (some ⟨hg, k, none⟩), .int .i64 (i : Int), u, .int .i64 16777216] w fun e w' => e = .returned (.tuple #[]) ∧ PDone B w hg k cs c (t.hs.take i ++ m ++ t.hs.drop i) w' := by
  obtain ⟨hq, -⟩ := h.seqAt hs
  have HS := Lib.hid (fun (w' : World) (a : AnyLater w w') => hgsize_any _ c t.hs w' (h.later a))
  have HW := Lib.hid (fun (w' : World) (a : AnyLater w w') => hgwithin_any _ c t.hs (i : Int) w' (h.later a))
  have hwi : wiV c (i : Int) = .tuple #[.pointer (some ⟨g, 0, none⟩), .int .i64 (i : Int)] := by
    unfold wiV
    rw [hs]
    simp only [show (i : Int) < (t.hs.length : Int) by omega, if_true]
  rw [hwi] at HW
  have HL := Lib.hid (fun (w' : World) (a : AnyLater w w') => sqlen_any (.pointer (some ⟨g, 0, none⟩)) t w' (hq.q.nil_or.later a) hq.fit)
  have HI := Lib.hid (fun (w' : World) (a : AnyLater w w') => qins_yes g u t i m w' (hq.later a) (by omega) (hu.later a) hm hb)
  have HE : Hid (∀ (w1 w2 : World), AnyLater w w1 → QOwn B w1 g t (t.hs.take i ++ m ++ t.hs.drop i) w2 → PDone B w hg k cs c (t.hs.take i ++ m ++ t.hs.drop i) w2) := Lib.hid (fun w1 w2 a q => PDone.own h hs hh hk a q (AnyLater.refl _))
  obtain ⟨A2, cap2, rfl, -⟩ := hu.form
  have s0_w := hh
  have r0_w := own_row hh
  have f0_w := own_free hh
  have l0_w := own_lt hh
  have d0 : ¬ (16777216 : Int) < (t.hs.length : Int) + (m.length : Int) := by omega
  have d1 : ((i : Int) == (t.hs.length : Int)) = false := by simp; omega
  clear h hs hh hu hb hq hwi
  generalize t.hs.take i ++ m ++ t.hs.drop i = l2 at *
  generalize t.hs.length = n at *
  generalize m.length = n2 at *
  go_enter Try.func53, Try.ntmps53
  go_wp2_with fail
  refine (HS.out _ (AnyLater.refl w)).mono ?_
  rintro e w1 ⟨rfl, b_w1⟩
  have z_w1 := b_w1.below.size
  have a_w1 := b_w1
  have s0_w1 := any_own b_w1 s0_w
  have r0_w1 := own_row s0_w1
  have f0_w1 := own_free s0_w1
  have l0_w1 := own_lt s0_w1
  (try clear r0_w); (try clear f0_w)
  go_wp2_with fail
  refine (HW.out _ a_w1).mono ?_
  rintro e w2 ⟨rfl, b_w2⟩
  have z_w2 := b_w2.below.size
  have a_w2 := a_w1.trans b_w2
  have s0_w2 := any_own b_w2 s0_w1
  have r0_w2 := own_row s0_w2
  have f0_w2 := own_free s0_w2
  have l0_w2 := own_lt s0_w2
  (try clear r0_w1); (try clear f0_w1)
  go_wp2_with fail
  refine (HL.out _ a_w2).mono ?_
  rintro e w3 ⟨rfl, b_w3⟩
  have z_w3 := b_w3.below.size
  have a_w3 := a_w2.trans b_w3
  have s0_w3 := any_own b_w3 s0_w2
  have r0_w3 := own_row s0_w3
  have f0_w3 := own_free s0_w3
  have l0_w3 := own_lt s0_w3
  (try clear r0_w2); (try clear f0_w2)
  go_wp2_with fail
  refine (HI.out _ a_w3).mono ?_
  rintro e w4 ⟨rfl, q⟩
  have HZ := Lib.hid (HE.out _ _ a_w3 q)
  clear q
  go_wp2_with fail
  go_end0
  exact ⟨rfl, HZ.out⟩
/-- heights put into a chain -/
theorem hgput_any (hg k : Nat) (cs : Array Value) (v u : Value) (l m : Qs) (c : Cw) (i : Nat) (w : World) (hh : w.heap[hg]? = some (.cells cs 70)) (hk : cs[k]? = some v) (h : IsCh B w v c l) (hB : B ≤ w.heap.size) (hi : i ≤ l.length) (hu : QR w u m) (hm : l.length + m.length ≤ 45000) (hb : m.any tlBad = false) :
    Calls Try.prog 53 #[.pointer (some ⟨hg, k, none⟩), .int .i64 (i : Int), u, .int .i64 16777216] w fun e w' => e = .returned (.tuple #[]) ∧ PDone B w hg k cs c (l.take i ++ m ++ l.drop i) w' := by
  have hu2 : ∃ A n cap, u = .slice A n cap := by
    obtain ⟨A, cap, e, _⟩ := hu.form
    exact ⟨_, _, _, e⟩
  rcases h.cases with ⟨hs, rfl, A, cap, rfl⟩ | ⟨b, cap, g, t, hs, rfl, k1, rfl⟩
  · obtain rfl : i = 0 := by simpa using hi
    simp only [List.take_nil, List.drop_nil, List.append_nil, List.nil_append]
    exact hgput_end hg k cs _ u [] m c w hh hk h hu2 (fun w' a => hgadd_none hg k cs _ u c m w' (any_own a hh) hk (h.later a) (Nat.le_trans hB a.below.size) hs (hu.later a) (by simpa using hm) hb)
  · by_cases hi2 : i < t.hs.length
    · exact hgput_in hg k cs b cap g i t u c m w hh hk h hs hi2 hu hm hb
    · obtain rfl : i = t.hs.length := by omega
      rw [List.take_length, List.drop_length, List.append_nil]
      exact hgput_end hg k cs _ u t.hs (t.hs ++ m) c w hh hk h hu2 (fun w' a => hgadd_one hg k cs b cap g t u c m w' (any_own a hh) hk (h.later a) hs (hu.later a) hm hb)
end Go.Proofs.Ytjoadlfkdkeomaa
