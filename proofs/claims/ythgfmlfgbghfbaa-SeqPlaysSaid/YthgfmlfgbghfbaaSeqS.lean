/- seq: SeqNone, walked. -/
import Derived.Test.YthgfmlfgbghfbaaSeqR
import Derived.Test.YthgfmlfgbghfbaaFree
import Derived.Test.YthgfmlfgbghfbaaClc
import Derived.Test.YthgfmlfgbghfbaaStor
import Derived.Lib.AppendZeros
import Derived.LoopN
import Derived.Deep.LoopGhost
import Derived.BigRegion
import Derived.RegionTactic
import Derived.Shelf.Abstract
import Derived.ChangeKeysEq
import Derived.Deep.DeepCutAuto
import Derived.Deep.CutBlock
namespace Go.Proofs.Ythgfmlfgbghfbaa
set_option linter.unusedSimpArgs false
set_option linter.unusedVariables false
set_option linter.unusedSectionVars false
open Go.RowKit


/-! ### a height is found -/
theorem QR.lit {t : TypeId} {w : World} {g : Nat} {cs : Array Value} (l : Qs) (h : w.heap[g]? = some (.cells cs t)) (e : cs.toList = flatQ l) : QR w (.slice (some ⟨g, 0, none⟩) l.length l.length) l := by
  refine ⟨_, _, rfl, Nat.le_refl _, fun h0 => ⟨g, 0, rfl, own_lt h, fun j hj => ?_⟩⟩
  have q : ∀ k, cs[k]? = (flatQ l)[k]? := fun k => by rw [← Array.getElem?_toList, e]
  rw [Nat.zero_add, own_row h, own_row h, q, q, flatQ_0, flatQ_1, List.getElem?_eq_getElem hj]
  exact ⟨rfl, rfl⟩
set_option maxRecDepth 100000 in
set_option maxHeartbeats 1600000 in
theorem sqlives_any (w : World) : Calls Try.prog 11 #[] w fun e w' => e = .returned (.bool true) ∧ AnyLater w w' := by
  have HN := Lib.hid (fun (w1 : World) (u : Value) (hu : QR w1 u [(1, 9), (2, 18)]) => sqnew_any u [(1, 9), (2, 18)] w1 hu (by decide) (by decide))
  have HF := Lib.hid (fun (w1 w2 : World) (g : Nat) (t : Ht) (B : Nat) (h : QAt B w1 g t) (e : t.hs = [(1, 9), (2, 18)]) (a : AnyLater w1 w2) => sqFind_any (.pointer (some ⟨g, 0, none⟩)) t 10 w2 (1, 9) (by rw [e]; decide) (h.later a).q.nil_or h.fit)
  have HC := Lib.hid (fun (w1 w2 : World) (g : Nat) (t : Ht) (B : Nat) (h : QAt B w1 g t) (a : AnyLater w1 w2) => sqcheck_any g t w2 (h.later a).q h.fit h.ok.fine.1)
  have HL : Hid (∀ (w1 : World) (g : Nat), w1.heap[g]? = some (.cells #[.int .i64 1, .int .i64 9, .int .i64 2, .int .i64 18] 34) → QR w1 (.slice (some ⟨g, 0, none⟩) 2 2) [(1, 9), (2, 18)]) := Lib.hid (fun w1 g h => QR.lit [(1, 9), (2, 18)] h rfl)
  go_enter Try.func11, Try.ntmps11
  go_wp2_with fail
  first | refine settle_wp (fun wS => AnyLater w wS ∧ wS.heap[w.heap.size]? = some (.cells #[.int .i64 1, .int .i64 9, .int .i64 2, .int .i64 18] 34)) ?_ ?_ | refine settle_calls (fun wS => AnyLater w wS ∧ wS.heap[w.heap.size]? = some (.cells #[.int .i64 1, .int .i64 9, .int .i64 2, .int .i64 18] 34)) ?_ ?_
  · refine ⟨?_, ?_⟩
    · repeat' (first | with_reducible assumption | with_reducible exact AnyLater.refl _ | with_reducible apply AnyLater.setCell | with_reducible apply AnyLater.later | with_reducible apply AnyLater.drewN | with_reducible apply AnyLater.drew | with_reducible apply AnyLater.alloc | ((try simp only [World.size_alloc, World.size_setCell, World.size_drew]); (try dsimp only); omega))
    · ((repeat (first | with_reducible assumption | ((with_reducible apply heap_new); (try simp only [World.size_alloc, World.size_setCell, World.size_drew, World.heap_drewN]); done) | ((with_reducible apply heap_new); (try simp only [World.size_alloc, World.size_setCell, World.size_drew, World.heap_drewN]); omega) | (with_reducible refine heap_old (by (try simp only [World.size_alloc, World.size_setCell, World.size_drew, World.heap_drewN]); omega) ?_) | (with_reducible refine heap_drew ?_) | (with_reducible refine heap_far (by omega) ?_) | (with_reducible apply heap_at))); all_goals rfl)
  rintro w1 ⟨b_w1, s0_w1⟩
  have a_w1 := b_w1
  have r0_w1 := own_row s0_w1
  have f0_w1 := own_free s0_w1
  have l0_w1 := own_lt s0_w1
  have z_w1 := b_w1.below.size
  refine (HN.out w1 _ (HL.out w1 _ s0_w1)).mono ?_
  rintro e w2 ⟨g, t, rfl, b2, hq, hs⟩
  have H2 := Lib.hid (And.intro (a_w1.trans b2) (And.intro hq hs))
  clear b2 hq hs
  go_wp2_with fail
  refine (HF.out w2 w2 g t _ H2.out.2.1 H2.out.2.2 (AnyLater.refl _)).mono ?_
  rintro e w3 ⟨rfl, b3⟩
  have H3 := Lib.hid b3
  clear b3
  go_wp2_with fail
  refine (HC.out w2 w3 g t _ H2.out.2.1 H3.out).mono ?_
  rintro e w4 ⟨rfl, b4⟩
  have H4 := Lib.hid ((H2.out.1.trans H3.out).trans b4)
  clear b4
  go_wp2_with fail
  go_ret
  exact ⟨rfl, H4.out⟩
/-- == of two heights -/
theorem fields_tall : Try.prog.underlying 34 = some (.struct (Try.prog.fieldsOf 34)) := by kernel_rfl
theorem stood_tall : Try.prog.stoodInHeld 34 = false := by kernel_rfl
theorem guard_tall : Try.prog.eqGuardType Try.prog.depth 34 = false := by kernel_rfl
set_option maxRecDepth 100000 in
theorem eqTall (a b c d : Int) (w : World) : (Op.equalIn 10000 34 (.agg #[.int .i64 a, .int .i64 b]) (.agg #[.int .i64 c, .int .i64 d])).run Try.prog w = .ok (a == c && b == d) w := by
  rw [run_equalIn_agg w 9999 _ _ _ fields_tall stood_tall]
  by_cases h1 : a = c
  · by_cases h2 : b = d
    · simp [go_sem, h1, h2]
    · simp [go_sem, h1, h2]
  · simp [go_sem, h1]
theorem eqlTall (a b : Int) (w : World) : (binOp .eql 34 (.agg #[.int .i64 a, .int .i64 b]) (.agg #[.int .i64 a, .int .i64 b])).run Try.prog w = .ok (.bool true) w := by
  rw [run_eql_struct, eqTall]; simp [Result.andThen]
theorem neqTall (a b : Int) (w : World) : (binOp .neq 34 (.agg #[.int .i64 a, .int .i64 b]) (.agg #[.int .i64 a, .int .i64 b])).run Try.prog w = .ok (.bool false) w := by
  rw [run_neq_struct, eqTall]; simp [Result.andThen]

/-! ### what is told of no Seq -/
theorem no_seq (w : World) : IsQN w (.pointer none) .nil := .inl ⟨rfl, rfl⟩
set_option maxRecDepth 100000 in
set_option maxHeartbeats 3200000 in
theorem seqNone_any (k i n x y : Int) (u : Value) (w : World) : Calls Try.prog 7 #[.agg #[.int .i64 k, .int .i64 i, .int .i64 n, .int .i64 x, .int .i64 y, u]] w fun e w' => e = .returned (.bool true) ∧ AnyLater w w' := by
  have HGet := Lib.hid (fun w' => sqget_none (.pointer none) .nil i w' (no_seq w') Ht.Fit.nil (by simp [Ht.hs]))
  have HF := Lib.hid (fun w' => sqFind_any (.pointer none) .nil n w' (-1, 0) rfl (no_seq w') Ht.Fit.nil)
  have HFR := Lib.hid (fun w' => sqFindRow_any (.pointer none) .nil n w' (-1, 0) rfl (no_seq w') Ht.Fit.nil)
  have HL := Lib.hid (fun w' => sqlen_any (.pointer none) .nil w' (no_seq w') Ht.Fit.nil)
  have HS := Lib.hid (fun w' => sqset_range (.pointer none) .nil i x y w' (no_seq w') Ht.Fit.nil (by simp [Ht.hs]))
  have HI := Lib.hid (fun w' => sqins_range (.pointer none) (.slice none 0 0) .nil i w' (no_seq w') Ht.Fit.nil (.inl rfl))
  have HD := Lib.hid (fun w' => sqdel_nil i n w')
  have HSum := Lib.hid (fun w' => sqsum_any (.pointer none) .nil i w' 0 0 (by simp [Ht.hs, tlR]) (by simp [Ht.hs, tlH]) (no_seq w') Ht.Fit.nil)
  have HC := Lib.hid (fun w' => sqcheck_nil w')
  have HLi := Lib.hid (fun w' => sqlives_any w')
  have ez := eqlTall
  have gz := guard_tall
  go_enter Try.func7, Try.ntmps7
  go_wp2_with fail
  first | refine settle_wp (fun wS => AnyLater w wS ∧ wS.heap[w.heap.size]? = some (.cells #[.int .i64 k, .int .i64 i, .int .i64 n, .int .i64 x, .int .i64 y, u] 36)) ?_ ?_ | refine settle_calls (fun wS => AnyLater w wS ∧ wS.heap[w.heap.size]? = some (.cells #[.int .i64 k, .int .i64 i, .int .i64 n, .int .i64 x, .int .i64 y, u] 36)) ?_ ?_
  · refine ⟨?_, ?_⟩
    · repeat' (first | with_reducible assumption | with_reducible exact AnyLater.refl _ | with_reducible apply AnyLater.setCell | with_reducible apply AnyLater.later | with_reducible apply AnyLater.drewN | with_reducible apply AnyLater.drew | with_reducible apply AnyLater.alloc | ((try simp only [World.size_alloc, World.size_setCell, World.size_drew]); (try dsimp only); omega))
    · ((repeat (first | with_reducible assumption | ((with_reducible apply heap_new); (try simp only [World.size_alloc, World.size_setCell, World.size_drew, World.heap_drewN]); done) | ((with_reducible apply heap_new); (try simp only [World.size_alloc, World.size_setCell, World.size_drew, World.heap_drewN]); omega) | (with_reducible refine heap_old (by (try simp only [World.size_alloc, World.size_setCell, World.size_drew, World.heap_drewN]); omega) ?_) | (with_reducible refine heap_drew ?_) | (with_reducible refine heap_far (by omega) ?_) | (with_reducible apply heap_at))); all_goals rfl)
  rintro w1 ⟨b_w1, s0_w1⟩
  have a_w1 := b_w1
  have r0_w1 := own_row s0_w1
  have f0_w1 := own_free s0_w1
  have l0_w1 := own_lt s0_w1
  have z_w1 := b_w1.below.size
  refine (HGet.out _).mono ?_
  rintro e w2 ⟨rfl, b_w2⟩
  have z_w2 := b_w2.below.size
  have a_w2 := a_w1.trans b_w2
  have s0_w2 := any_own b_w2 s0_w1
  have r0_w2 := own_row s0_w2
  have f0_w2 := own_free s0_w2
  have l0_w2 := own_lt s0_w2
  (try clear r0_w1); (try clear f0_w1)
  go_wp2_with fail
  first | refine settle_wp (fun wS => AnyLater w2 wS ∧ wS.heap[w2.heap.size]? = some (.cells #[.int .i64 0, .int .i64 0] 34)) ?_ ?_ | refine settle_calls (fun wS => AnyLater w2 wS ∧ wS.heap[w2.heap.size]? = some (.cells #[.int .i64 0, .int .i64 0] 34)) ?_ ?_
  · refine ⟨?_, ?_⟩
    · repeat' (first | with_reducible assumption | with_reducible exact AnyLater.refl _ | with_reducible apply AnyLater.setCell | with_reducible apply AnyLater.later | with_reducible apply AnyLater.drewN | with_reducible apply AnyLater.drew | with_reducible apply AnyLater.alloc | ((try simp only [World.size_alloc, World.size_setCell, World.size_drew]); (try dsimp only); omega))
    · ((repeat (first | with_reducible assumption | ((with_reducible apply heap_new); (try simp only [World.size_alloc, World.size_setCell, World.size_drew, World.heap_drewN]); done) | ((with_reducible apply heap_new); (try simp only [World.size_alloc, World.size_setCell, World.size_drew, World.heap_drewN]); omega) | (with_reducible refine heap_old (by (try simp only [World.size_alloc, World.size_setCell, World.size_drew, World.heap_drewN]); omega) ?_) | (with_reducible refine heap_drew ?_) | (with_reducible refine heap_far (by omega) ?_) | (with_reducible apply heap_at))); all_goals rfl)
  rintro w3 ⟨b_w3, s1_w3⟩
  have a_w3 := a_w2.trans b_w3
  have s0_w3 := any_own b_w3 s0_w2
  have r0_w3 := own_row s0_w3
  have f0_w3 := own_free s0_w3
  have l0_w3 := own_lt s0_w3
  (try clear r0_w2); (try clear f0_w2)
  have r1_w3 := own_row s1_w3
  have f1_w3 := own_free s1_w3
  have l1_w3 := own_lt s1_w3
  have z_w3 := b_w3.below.size
  refine (HF.out _).mono ?_
  rintro e w4 ⟨rfl, b_w4⟩
  have z_w4 := b_w4.below.size
  have a_w4 := a_w3.trans b_w4
  have s0_w4 := any_own b_w4 s0_w3
  have r0_w4 := own_row s0_w4
  have f0_w4 := own_free s0_w4
  have l0_w4 := own_lt s0_w4
  (try clear r0_w3); (try clear f0_w3)
  go_wp2_with fail
  refine (HFR.out _).mono ?_
  rintro e w5 ⟨rfl, b_w5⟩
  have z_w5 := b_w5.below.size
  have a_w5 := a_w4.trans b_w5
  have s0_w5 := any_own b_w5 s0_w4
  have r0_w5 := own_row s0_w5
  have f0_w5 := own_free s0_w5
  have l0_w5 := own_lt s0_w5
  (try clear r0_w4); (try clear f0_w4)
  go_wp2_with fail
  refine (HL.out _).mono ?_
  rintro e w6 ⟨rfl, b_w6⟩
  have z_w6 := b_w6.below.size
  have a_w6 := a_w5.trans b_w6
  have s0_w6 := any_own b_w6 s0_w5
  have r0_w6 := own_row s0_w6
  have f0_w6 := own_free s0_w6
  have l0_w6 := own_lt s0_w6
  (try clear r0_w5); (try clear f0_w5)
  go_wp2_with fail
  refine (HS.out _).mono ?_
  rintro e w7 ⟨rfl, b_w7⟩
  have z_w7 := b_w7.below.size
  have a_w7 := a_w6.trans b_w7
  have s0_w7 := any_own b_w7 s0_w6
  have r0_w7 := own_row s0_w7
  have f0_w7 := own_free s0_w7
  have l0_w7 := own_lt s0_w7
  (try clear r0_w6); (try clear f0_w6)
  go_wp2_with fail
  refine (HI.out _).mono ?_
  rintro e w8 ⟨rfl, b_w8⟩
  have z_w8 := b_w8.below.size
  have a_w8 := a_w7.trans b_w8
  have s0_w8 := any_own b_w8 s0_w7
  have r0_w8 := own_row s0_w8
  have f0_w8 := own_free s0_w8
  have l0_w8 := own_lt s0_w8
  (try clear r0_w7); (try clear f0_w7)
  go_wp2_with fail
  refine (HD.out _).mono ?_
  rintro e w9 ⟨rfl, b_w9⟩
  have z_w9 := b_w9.below.size
  have a_w9 := a_w8.trans b_w9
  have s0_w9 := any_own b_w9 s0_w8
  have r0_w9 := own_row s0_w9
  have f0_w9 := own_free s0_w9
  have l0_w9 := own_lt s0_w9
  (try clear r0_w8); (try clear f0_w8)
  go_wp2_with fail
  refine (HSum.out _).mono ?_
  rintro e w10 ⟨rfl, b_w10⟩
  have z_w10 := b_w10.below.size
  have a_w10 := a_w9.trans b_w10
  have s0_w10 := any_own b_w10 s0_w9
  have r0_w10 := own_row s0_w10
  have f0_w10 := own_free s0_w10
  have l0_w10 := own_lt s0_w10
  (try clear r0_w9); (try clear f0_w9)
  go_wp2_with fail
  refine (HC.out _).mono ?_
  rintro e w11 ⟨rfl, b_w11⟩
  have z_w11 := b_w11.below.size
  have a_w11 := a_w10.trans b_w11
  have s0_w11 := any_own b_w11 s0_w10
  have r0_w11 := own_row s0_w11
  have f0_w11 := own_free s0_w11
  have l0_w11 := own_lt s0_w11
  (try clear r0_w10); (try clear f0_w10)
  go_wp2_with fail
  refine (HLi.out _).mono ?_
  rintro e w12 ⟨rfl, b_w12⟩
  have z_w12 := b_w12.below.size
  have a_w12 := a_w11.trans b_w12
  have s0_w12 := any_own b_w12 s0_w11
  have r0_w12 := own_row s0_w12
  have f0_w12 := own_free s0_w12
  have l0_w12 := own_lt s0_w12
  (try clear r0_w11); (try clear f0_w11)
  go_wp2_with fail
  go_ret
  exact ⟨rfl, a_w12⟩
end Go.Proofs.Ythgfmlfgbghfbaa
