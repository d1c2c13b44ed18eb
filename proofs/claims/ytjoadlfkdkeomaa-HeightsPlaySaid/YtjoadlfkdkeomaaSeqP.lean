/- seq: heights taken away, a Seq made: by contract. Up to 45000 heights. -/
import Derived.Test.YtjoadlfkdkeomaaSeqO
import Derived.Test.YtjoadlfkdkeomaaFree
import Derived.Test.YtjoadlfkdkeomaaClc
import Derived.Test.YtjoadlfkdkeomaaStor
import Derived.LoopN
import Derived.Deep.LoopGhost
import Derived.BigRegion
import Derived.RegionTactic
import Derived.Shelf.Abstract
import Derived.ChangeKeysEq
import Derived.Deep.DeepCutAuto
import Derived.Deep.CutBlock
namespace Go.Proofs.Ytjoadlfkdkeomaa
set_option linter.unusedSimpArgs false
set_option linter.unusedVariables false
set_option linter.unusedSectionVars false
open Go.RowKit
variable {B : Nat}

/-! ### heights taken away -/
def qdelC (n : Nat) (i k : Int) : Int := if 0 ≤ i ∧ i ≤ n ∧ 0 ≤ k ∧ k ≤ n - i then 0 else 1
def qdelO (l : Qs) (i k : Int) : Qs := if qdelC l.length i k = 0 then l.take i.toNat ++ l.drop (i.toNat + k.toNat) else l
set_option maxRecDepth 100000 in
set_option maxHeartbeats 1600000 in
theorem sqdel_nil (i k : Int) (w : World) : Calls Try.prog 64 #[.pointer none, .int .i64 i, .int .i64 k] w fun e w' => e = .returned (.int .i64 1) ∧ AnyLater w w' := by
  have HL := Lib.hid (fun (w' : World) => sqlen_any (.pointer none) .nil w' (.inl ⟨rfl, rfl⟩) Ht.Fit.nil)
  by_cases h : ClcSpan i k 0
  · have HS := Lib.hid (fun (w' : World) => same_later (clcSpan_yes i k 0 w' h (by decide)))
    clear h
    go_enter Try.func64, Try.ntmps64
    go_wp2_with fail
    refine (HL.out _).mono ?_
    rintro e w1 ⟨rfl, b_w1⟩
    have z_w1 := b_w1.below.size
    have a_w1 := b_w1
    go_wp2_with fail
    refine (HS.out _).mono ?_
    rintro e w2 ⟨rfl, b_w2⟩
    have z_w2 := b_w2.below.size
    have a_w2 := a_w1.trans b_w2
    go_wp2_with fail
    go_ret
    exact ⟨rfl, a_w2⟩
  · have HS := Lib.hid (fun (w' : World) => same_later (clcSpan_no i k 0 w' h (by decide) (by decide)))
    clear h
    go_enter Try.func64, Try.ntmps64
    go_wp2_with fail
    refine (HL.out _).mono ?_
    rintro e w1 ⟨rfl, b_w1⟩
    have z_w1 := b_w1.below.size
    have a_w1 := b_w1
    go_wp2_with fail
    refine (HS.out _).mono ?_
    rintro e w2 ⟨rfl, b_w2⟩
    have z_w2 := b_w2.below.size
    have a_w2 := a_w1.trans b_w2
    go_wp2_with fail
    go_ret
    exact ⟨rfl, a_w2⟩
set_option maxRecDepth 100000 in
set_option maxHeartbeats 1600000 in
theorem sqdel_range (g : Nat) (t : Ht) (i k : Int) (w : World) (h : IsQ w g t) (hf : t.Fit) (hi : ¬ ClcSpan i k t.hs.length) : Calls Try.prog 64 #[.pointer (some ⟨g, 0, none⟩), .int .i64 i, .int .i64 k] w fun e w' => e = .returned (.int .i64 1) ∧ AnyLater w w' := by
  have HL := Lib.hid (sqlen_any (.pointer (some ⟨g, 0, none⟩)) t w h.nil_or hf)
  have HS := Lib.hid (fun (w' : World) => same_later (clcSpan_no i k t.hs.length w' hi (by have := hf.most; omega) (by omega)))
  clear h hf hi
  generalize t.hs.length = n at *
  go_enter Try.func64, Try.ntmps64
  go_wp2_with fail
  refine (HL.out).mono ?_
  rintro e w1 ⟨rfl, b_w1⟩
  have z_w1 := b_w1.below.size
  have a_w1 := b_w1
  go_wp2_with fail
  refine (HS.out _).mono ?_
  rintro e w2 ⟨rfl, b_w2⟩
  have z_w2 := b_w2.below.size
  have a_w2 := a_w1.trans b_w2
  go_wp2_with fail
  go_ret
  exact ⟨rfl, a_w2⟩
set_option maxRecDepth 100000 in
set_option maxHeartbeats 1600000 in
theorem sqdel_yes (g : Nat) (t : Ht) (i k : Nat) (w : World) (h : QAt B w g t) (hi : i + k ≤ t.hs.length) : Calls Try.prog 64 #[.pointer (some ⟨g, 0, none⟩), .int .i64 (i : Int), .int .i64 (k : Int)] w fun e w' => e = .returned (.int .i64 0) ∧ QDone B w g t (t.hs.take i ++ t.hs.drop (i + k)) w' := by
  have hf := h.fit
  have hm := h.ok.most
  have HL := Lib.hid (sqlen_any (.pointer (some ⟨g, 0, none⟩)) t w h.q.nil_or hf)
  have HSp := Lib.hid (fun (w' : World) => same_later (clcSpan_yes (i : Int) (k : Int) t.hs.length w' ⟨by omega, by omega, by omega, by omega⟩ (by omega)))
  have hz : t.hs.take i ++ [] ++ t.hs.drop (i + k) = t.hs.take i ++ t.hs.drop (i + k) := by rw [List.append_nil]
  have HE : Hid (∀ w0 w1 u' w', AnyLater w w0 → AnyLater w0 w1 → isSpliced B w0 t (t.hs.take i ++ [] ++ t.hs.drop (i + k)) u' w1 → w' = w1.setCell ⟨g, 0, none⟩ u' → QDone B w g t (t.hs.take i ++ t.hs.drop (i + k)) w') := Lib.hid (fun w0 w1 u' w' a0 a1 ⟨T, k1, k2, k3, k4, k5⟩ e => by
    rw [hz] at k2
    refine QDone.spliced h (a0.trans a1) k1 k2 k3 k4 (fun b hb => (k5 b hb).imp id (fun q => Nat.le_trans a0.below.size q)) ((hf.tls.take i).append (hf.tls.drop (i + k))) ?_ e
    rw [List.length_append, List.length_take, List.length_drop]; omega)
  obtain ⟨rv, hg, ht⟩ := h.obj
  have HS := Lib.hid (fun (w' : World) (a : AnyLater w w') => hsplice_any t i (i + k) rv (.slice none 0 0) [] w' (isH_stays a ht) h.ok (by omega) hi (QR.void w' none 0) (by simp; omega) Tls.nil)
  have hc : ((i + k : Nat) : Int) = (i : Int) + (k : Int) := by omega
  rw [hc] at HS
  obtain ⟨q, rfl⟩ := ht.ptr
  have s0_w := hg
  have r0_w := own_row hg
  have f0_w := own_free hg
  have l0_w := own_lt hg
  clear h hf hi ht hg hz hm hc
  generalize t.hs.take i ++ t.hs.drop (i + k) = l3 at *
  generalize t.hs.take i ++ [] ++ t.hs.drop (i + k) = l2 at *
  generalize t.hs.length = n at *
  go_enter Try.func64, Try.ntmps64
  go_wp2_with fail
  refine (HL.out).mono ?_
  rintro e w1 ⟨rfl, b_w1⟩
  have z_w1 := b_w1.below.size
  have a_w1 := b_w1
  have s0_w1 := any_own b_w1 s0_w
  have r0_w1 := own_row s0_w1
  have f0_w1 := own_free s0_w1
  have l0_w1 := own_lt s0_w1
  (try clear r0_w); (try clear f0_w)
  go_wp2_with fail
  refine (HSp.out _).mono ?_
  rintro e w2 ⟨rfl, b_w2⟩
  have z_w2 := b_w2.below.size
  have a_w2 := a_w1.trans b_w2
  have s0_w2 := any_own b_w2 s0_w1
  have r0_w2 := own_row s0_w2
  have f0_w2 := own_free s0_w2
  have l0_w2 := own_lt s0_w2
  (try clear r0_w1); (try clear f0_w1)
  go_wp2_with fail
  refine (HS.out _ a_w2).mono ?_
  rintro e w4 ⟨u4, rfl, b_w4, p4⟩
  have HZ := Lib.hid (HE.out w2 w4 u4 _ a_w2 b_w4 p4 rfl)
  obtain ⟨T, hT, -⟩ := p4
  obtain ⟨q4, rfl⟩ := hT.ptr
  have z_w4 := b_w4.below.size
  have a_w4 := a_w2.trans b_w4
  have s0_w4 := any_own b_w4 s0_w2
  have r0_w4 := own_row s0_w4
  have f0_w4 := own_free s0_w4
  have l0_w4 := own_lt s0_w4
  (try clear r0_w2); (try clear f0_w2)
  clear hT
  go_wp2_with fail
  go_ret
  exact ⟨rfl, HZ.out⟩
/-- Delete, whatever is asked -/
theorem sqdel_any (g : Nat) (t : Ht) (i k : Int) (w : World) (h : QAt B w g t) : Calls Try.prog 64 #[.pointer (some ⟨g, 0, none⟩), .int .i64 i, .int .i64 k] w fun e w' => e = .returned (.int .i64 (qdelC t.hs.length i k)) ∧ QDone B w g t (qdelO t.hs i k) w' := by
  by_cases h1 : 0 ≤ i ∧ i ≤ t.hs.length ∧ 0 ≤ k ∧ k ≤ t.hs.length - i
  · have e1 : qdelC t.hs.length i k = 0 := by unfold qdelC; rw [if_pos h1]
    have e2 : qdelO t.hs i k = t.hs.take i.toNat ++ t.hs.drop (i.toNat + k.toNat) := by unfold qdelO; rw [if_pos e1]
    rw [e1, e2]
    obtain ⟨a, rfl⟩ := Int.eq_ofNat_of_zero_le h1.1
    obtain ⟨b, rfl⟩ := Int.eq_ofNat_of_zero_le h1.2.2.1
    exact sqdel_yes g t a b w h (by omega)
  · have e1 : qdelC t.hs.length i k = 1 := by unfold qdelC; rw [if_neg h1]
    have e2 : qdelO t.hs i k = t.hs := by unfold qdelO; rw [if_neg (by rw [e1]; decide)]
    rw [e1, e2]
    refine (sqdel_range g t i k w h.q h.fit (by unfold ClcSpan; exact h1)).mono ?_
    rintro e w' ⟨rfl, a⟩
    exact ⟨rfl, QDone.same h a⟩

/-! ### made -/
theorem QAt.void {w w1 : World} {g : Nat} (hg : w1.heap[g]? = some (.cells #[.pointer none] 84)) (hB : B ≤ g) (hs : B ≤ w1.heap.size) : QAt B w1 g .nil := ⟨⟨_, hg, isH_none hs⟩, ⟨Ht.Fine.nil, Tls.nil, by decide, List.nodup_nil⟩, hB⟩
set_option maxRecDepth 100000 in
theorem sqnew_bad (u : Value) (m : Qs) (w : World) (hu : QR w u m) (hm : m.length ≤ 45000) (hk : m.any tlBad = true) : Calls Try.prog 41 #[u] w fun e w' => e = .returned (.tuple #[.pointer none, .int .i64 5]) ∧ AnyLater w w' := by
  have HI := Lib.hid (fun (w1 : World) (g : Nat) (a : AnyLater w w1) (hg : w1.heap[g]? = some (.cells #[.pointer none] 84)) => sqins_kind g u .nil 0 m w1 ⟨_, _, hg, rfl, rfl⟩ Ht.Fit.nil (Nat.zero_le _) (hu.later a) (by omega) hk)
  obtain ⟨A, cap, rfl, -⟩ := hu.form
  clear hu hm hk
  go_enter Try.func41, Try.ntmps41
  go_wp2_with fail
  first | refine settle_wp (fun wS => AnyLater w wS ∧ wS.heap[w.heap.size]? = some (.cells #[.pointer none] 84)) ?_ ?_ | refine settle_calls (fun wS => AnyLater w wS ∧ wS.heap[w.heap.size]? = some (.cells #[.pointer none] 84)) ?_ ?_
  · refine ⟨?_, ?_⟩
    · repeat' (first | with_reducible assumption | with_reducible exact AnyLater.refl _ | with_reducible apply AnyLater.setCell | with_reducible apply AnyLater.later | with_reducible apply AnyLater.drewN | with_reducible apply AnyLater.drew | with_reducible apply AnyLater.alloc | ((try simp only [World.size_alloc, World.size_setCell, World.size_drew]); (try dsimp only); omega))
    · ((repeat (first | with_reducible assumption | ((with_reducible apply heap_new); (try simp only [World.size_alloc, World.size_setCell, World.size_drew, World.heap_drewN]); done) | ((with_reducible apply heap_new); (try simp only [World.size_alloc, World.size_setCell, World.size_drew, World.heap_drewN]); omega) | (with_reducible refine heap_old (by (try simp only [World.size_alloc, World.size_setCell, World.size_drew, World.heap_drewN]); omega) ?_) | (with_reducible refine heap_drew ?_) | (with_reducible refine heap_far (by omega) ?_) | (with_reducible apply heap_at))); all_goals rfl)
  rintro w1 ⟨b_w1, s0_w1⟩
  have a_w1 := b_w1
  have r0_w1 := own_row s0_w1
  have f0_w1 := own_free s0_w1
  have l0_w1 := own_lt s0_w1
  have z_w1 := b_w1.below.size
  refine (HI.out _ _ a_w1 s0_w1).mono ?_
  rintro e w2 ⟨rfl, b_w2⟩
  have z_w2 := b_w2.below.size
  have a_w2 := a_w1.trans b_w2
  have s0_w2 := any_own b_w2 s0_w1
  have r0_w2 := own_row s0_w2
  have f0_w2 := own_free s0_w2
  have l0_w2 := own_lt s0_w2
  (try clear r0_w1); (try clear f0_w1)
  go_wp2_with fail
  refine bodyPost_ret (v := .tuple #[.pointer none, .int .i64 5]) (by simp [results, Try.results41, go_sem]) rfl ⟨rfl, ?_⟩
  repeat' (first | with_reducible assumption | with_reducible exact AnyLater.refl _ | with_reducible apply AnyLater.setCell | with_reducible apply AnyLater.later | with_reducible apply AnyLater.drewN | with_reducible apply AnyLater.drew | with_reducible apply AnyLater.alloc | ((try simp only [World.size_alloc, World.size_setCell, World.size_drew]); (try dsimp only); omega))
set_option maxRecDepth 100000 in
theorem sqnew_any (u : Value) (m : Qs) (w : World) (hu : QR w u m) (hm : m.length ≤ 45000) (hk : m.any tlBad = false) : Calls Try.prog 41 #[u] w fun e w' => ∃ g t, e = .returned (.tuple #[.pointer (some ⟨g, 0, none⟩), .int .i64 0]) ∧ AnyLater w w' ∧ QAt w.heap.size w' g t ∧ t.hs = m := by
  have HI := Lib.hid (fun (w1 : World) (a : AnyLater w w1) (hg : w1.heap[w.heap.size]? = some (.cells #[.pointer none] 84)) => sqins_yes w.heap.size u .nil 0 m w1 (QAt.void (B := w.heap.size) (w := w) hg (Nat.le_refl _) a.below.size) (Nat.zero_le _) (hu.later a) (by simp [Ht.hs]; omega) hk)
  obtain ⟨A, cap, rfl, -⟩ := hu.form
  clear hu hm hk
  go_enter Try.func41, Try.ntmps41
  go_wp2_with fail
  first | refine settle_wp (fun wS => AnyLater w wS ∧ wS.heap[w.heap.size]? = some (.cells #[.pointer none] 84)) ?_ ?_ | refine settle_calls (fun wS => AnyLater w wS ∧ wS.heap[w.heap.size]? = some (.cells #[.pointer none] 84)) ?_ ?_
  · refine ⟨?_, ?_⟩
    · repeat' (first | with_reducible assumption | with_reducible exact AnyLater.refl _ | with_reducible apply AnyLater.setCell | with_reducible apply AnyLater.later | with_reducible apply AnyLater.drewN | with_reducible apply AnyLater.drew | with_reducible apply AnyLater.alloc | ((try simp only [World.size_alloc, World.size_setCell, World.size_drew]); (try dsimp only); omega))
    · ((repeat (first | with_reducible assumption | ((with_reducible apply heap_new); (try simp only [World.size_alloc, World.size_setCell, World.size_drew, World.heap_drewN]); done) | ((with_reducible apply heap_new); (try simp only [World.size_alloc, World.size_setCell, World.size_drew, World.heap_drewN]); omega) | (with_reducible refine heap_old (by (try simp only [World.size_alloc, World.size_setCell, World.size_drew, World.heap_drewN]); omega) ?_) | (with_reducible refine heap_drew ?_) | (with_reducible refine heap_far (by omega) ?_) | (with_reducible apply heap_at))); all_goals rfl)
  rintro w1 ⟨b_w1, s0_w1⟩
  have a_w1 := b_w1
  have r0_w1 := own_row s0_w1
  have f0_w1 := own_free s0_w1
  have l0_w1 := own_lt s0_w1
  have z_w1 := b_w1.below.size
  refine (HI.out _ a_w1 s0_w1).mono ?_
  rintro e w2 ⟨rfl, hq⟩
  have HZ : Hid (AnyLater w w2 ∧ ∃ t, QAt w.heap.size w2 w.heap.size t ∧ t.hs = m) := Lib.hid (by
    refine ⟨hq.any a_w1 (Nat.le_refl _) (Nat.le_refl _), ?_⟩
    obtain ⟨⟨t', k1, k2, _⟩, _⟩ := hq
    exact ⟨t', k1, by rw [k2]; simp [Ht.hs]⟩)
  clear hq
  go_wp2_with fail
  refine bodyPost_ret (v := .tuple #[.pointer (some ⟨w.heap.size, 0, none⟩), .int .i64 0]) (by simp [results, Try.results41, go_sem]) rfl ?_
  obtain ⟨a, t, k1, k2⟩ := HZ.out
  exact ⟨_, t, rfl, a, k1, k2⟩
end Go.Proofs.Ytjoadlfkdkeomaa
