/- undo: a stack that a law made, with blocks that are kept beside it; lives; UndoNone. -/
import Derived.Test.YtnbchaigbkblfaaUndR
namespace Go.Proofs.Ytnbchaigbkblfaa
set_option linter.unusedSimpArgs false
set_option linter.unusedVariables false
set_option linter.unusedSectionVars false
open Go.RowKit

/-- a stack that was made behind W, in w, and blocks that it leaves alone -/
def At1 (W w : World) (K : List (Nat × Obj)) (s most : Nat) (m : UM) : Prop :=
  ∃ v, IsS w s v most m ∧ AnyLater W w ∧ (∀ k, Fp s v k → W.heap.size ≤ k) ∧ ∀ e ∈ K, w.heap[e.1]? = some e.2 ∧ ¬ Fp s v e.1
section
variable {W w : World} {K : List (Nat × Obj)} {s most : Nat} {m m' : UM}
theorem At1.turns {P : Program} {f : FuncId} {args : Array Value} {r : Ending} (h : At1 W w K s most m) (hc : ∀ v, IsS w s v most m → Calls P f args w fun e w' => e = r ∧ TurnsS w s v most m' w') :
    Calls P f args w fun e w' => e = r ∧ At1 W w' K s most m' := by
  obtain ⟨v, h1, h2, h3, h4⟩ := h
  refine (hc v h1).mono ?_
  rintro e w' ⟨rfl, v', i1, i2, i3⟩
  refine ⟨rfl, v', i1, i2.any h2 h3, fun k hk => ?_, fun e he => ?_⟩
  · rcases hk with rfl | e
    · exact h3 _ (.inl rfl)
    · rcases i3 k e with q | q
      · exact h3 _ (.inr q)
      · exact Nat.le_trans h2.below.size q
  · obtain ⟨q1, q2⟩ := h4 e he
    refine ⟨i2.own q1 q2, fun hk => ?_⟩
    rcases hk with q | q
    · exact q2 (.inl q)
    · rcases i3 _ q with r | r
      · exact q2 (.inr r)
      · have := own_lt q1
        omega
theorem At1.later {w' : World} (h : At1 W w K s most m) (ha : AnyLater w w') : At1 W w' K s most m := by
  obtain ⟨v, h1, h2, h3, h4⟩ := h
  exact ⟨v, h1.later ha, h2.trans ha, h3, fun e he => ⟨any_own ha (h4 e he).1, (h4 e he).2⟩⟩
theorem At1.any (h : At1 W w K s most m) : AnyLater W w := by
  obtain ⟨v, h1, h2, h3, h4⟩ := h
  exact h2
theorem At1.isS (h : At1 W w K s most m) : ∃ v, IsS w s v most m := by
  obtain ⟨v, h1, h2, h3, h4⟩ := h
  exact ⟨v, h1⟩
theorem At1.push (h : At1 W w K s most m) (x : Int) : Calls Try.prog 14 #[sptr s, .int .i64 x] w fun e w' => e = .returned (.tuple #[]) ∧ At1 W w' K s most (pushU most m x) := h.turns fun v h => upush_any s v most m x w h
theorem At1.back (h : At1 W w K s most m) (x : Int) : Calls Try.prog 9 #[sptr s, .int .i64 x] w fun e w' => e = .returned (.tuple #[.int .i64 (backV m x), .bool (backB m)]) ∧ At1 W w' K s most (backU m x) := h.turns fun v h => uback_any s v most m x w h
theorem At1.again (h : At1 W w K s most m) (x : Int) : Calls Try.prog 11 #[sptr s, .int .i64 x] w fun e w' => e = .returned (.tuple #[.int .i64 (againV m x), .bool (againB m)]) ∧ At1 W w' K s most (againU m x) := h.turns fun v h => uagain_any s v most m x w h
theorem At1.past (h : At1 W w K s most m) : Calls Try.prog 16 #[sptr s] w fun e w' => e = .returned (.int .i64 (m.now : Int)) ∧ w = w' := by
  obtain ⟨v, h1⟩ := h.isS
  exact past_any s v most m w h1
theorem At1.future (h : At1 W w K s most m) : Calls Try.prog 17 #[sptr s] w fun e w' => e = .returned (.int .i64 ((m.l.length - m.now : Nat) : Int)) ∧ AnyLater w w' := by
  obtain ⟨v, h1⟩ := h.isS
  exact future_any s v most m w h1
end
theorem at_new (W w : World) (most : Nat) (ha : AnyLater W w) (h1 : 1 ≤ most) (h2 : most ≤ 1024) : Calls Try.prog 7 #[.int .i64 (most : Int)] w fun e w' => e = .returned (.tuple #[sptr w.heap.size, .int .i64 0]) ∧ At1 W w' [] w.heap.size most UM.none := by
  refine (unew_any most w h1 h2).mono ?_
  rintro e w' ⟨rfl, a, hs⟩
  refine ⟨rfl, _, hs, ha.trans a, fun k hk => ?_, fun e he => by cases he⟩
  rcases hk with rfl | e
  · exact ha.below.size
  · cases e
set_option maxRecDepth 100000 in
theorem undlives_any (w : World) : Calls Try.prog 8 #[] w fun e w' => e = .returned (.bool true) ∧ AnyLater w w' := by
  have H0 : Hid (Calls Try.prog 7 #[.int .i64 3] w fun e w' => e = .returned (.tuple #[sptr w.heap.size, .int .i64 0]) ∧ At1 w w' [] w.heap.size 3 UM.none) := Lib.hid (at_new w w 3 (.refl w) (by omega) (by omega))
  have H1 : Hid (∀ w', At1 w w' [] w.heap.size 3 UM.none → Calls Try.prog 14 #[sptr w.heap.size, .int .i64 1] w' fun e w'' => e = .returned (.tuple #[]) ∧ At1 w w'' [] w.heap.size 3 ⟨[1], 1⟩) := Lib.hid (fun w' h => h.push 1)
  have H2 : Hid (∀ w', At1 w w' [] w.heap.size 3 ⟨[1], 1⟩ → Calls Try.prog 9 #[sptr w.heap.size, .int .i64 2] w' fun e w'' => e = .returned (.tuple #[.int .i64 1, .bool true]) ∧ At1 w w'' [] w.heap.size 3 ⟨[2], 0⟩) := Lib.hid (fun w' h => h.back 2)
  have H3 : Hid (∀ w', At1 w w' [] w.heap.size 3 ⟨[2], 0⟩ → Calls Try.prog 11 #[sptr w.heap.size, .int .i64 1] w' fun e w'' => e = .returned (.tuple #[.int .i64 2, .bool true]) ∧ At1 w w'' [] w.heap.size 3 ⟨[1], 1⟩) := Lib.hid (fun w' h => h.again 1)
  have H4 : Hid (∀ w', At1 w w' [] w.heap.size 3 ⟨[1], 1⟩ → Calls Try.prog 16 #[sptr w.heap.size] w' fun e w'' => e = .returned (.int .i64 1) ∧ w' = w'') := Lib.hid (fun w' h => h.past)
  unfold sptr at *
  go_enter Try.func8, Try.ntmps8
  go_wp2_with fail
  refine H0.out.mono ?_
  rintro e w0 ⟨rfl, h0⟩
  have HC1 := Lib.hid (H1.out _ h0)
  clear h0 H0 H1
  go_wp2_with fail
  refine HC1.out.mono ?_
  rintro e w1 ⟨rfl, h1⟩
  have HC2 := Lib.hid (H2.out _ h1)
  clear h1 H2
  go_wp2_with fail
  refine HC2.out.mono ?_
  rintro e w2 ⟨rfl, h2⟩
  have HC3 := Lib.hid (H3.out _ h2)
  clear h2 H3
  go_wp2_with fail
  refine HC3.out.mono ?_
  rintro e w3 ⟨rfl, h3⟩
  have HC4 := Lib.hid (H4.out _ h3)
  have HA := Lib.hid h3.any
  clear h3 H4
  go_wp2_with fail
  refine HC4.out.mono ?_
  rintro e w4 ⟨rfl, rfl⟩
  go_wp2_with fail
  go_ret
  exact ⟨rfl, HA.out⟩
set_option maxRecDepth 100000 in
theorem undoNone_any (W : World) (n : Int) : Calls Try.prog 6 #[.int .i64 n] W fun e w' => e = .returned (.bool true) ∧ AnyLater W w' := by
  have H1 := Lib.hid (upush_nil n)
  have H2 := Lib.hid uclear_nil
  have H3 := Lib.hid (uback_nil n)
  have H4 := Lib.hid (uagain_nil n)
  have H5 := Lib.hid past_nil
  have H6 := Lib.hid future_nil
  have H7 := Lib.hid undlives_any
  go_enter Try.func6, Try.ntmps6
  go_wp2_with fail
  refine (H1.out _).mono ?_
  rintro e w ⟨rfl, rfl⟩
  go_wp2_with fail
  refine (H2.out _).mono ?_
  rintro e w ⟨rfl, rfl⟩
  go_wp2_with fail
  refine (H3.out _).mono ?_
  rintro e w ⟨rfl, rfl⟩
  go_wp2_with fail
  refine (H4.out _).mono ?_
  rintro e w1 ⟨rfl, b1⟩
  have HB1 := Lib.hid b1
  clear b1
  go_wp2_with fail
  refine (H5.out _).mono ?_
  rintro e w ⟨rfl, rfl⟩
  go_wp2_with fail
  refine (H6.out _).mono ?_
  rintro e w2 ⟨rfl, b2⟩
  have HB2 := Lib.hid b2
  clear b2
  go_wp2_with fail
  refine (H7.out _).mono ?_
  rintro e w3 ⟨rfl, b3⟩
  have HB3 := Lib.hid b3
  clear b3
  go_wp2_with fail
  go_ret
  exact ⟨rfl, HB1.out.trans (HB2.out.trans HB3.out)⟩
end Go.Proofs.Ytnbchaigbkblfaa
