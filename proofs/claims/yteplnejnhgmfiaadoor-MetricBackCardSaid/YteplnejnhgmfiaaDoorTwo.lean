/- Two rows of numbers of 64 bits that grow side by side; two appends of one number each in a region that draws its order. No condition. -/
import Derived.Test.YteplnejnhgmfiaaDoorNums
import Derived.Test.YteplnejnhgmfiaaDoorWhole
import Derived.Deep.AppendLies
namespace Go.Proofs.YteplnejnhgmfiaaDoor
set_option linter.unusedSimpArgs false
set_option linter.unusedVariables false
set_option linter.unusedSectionVars false
open Go.RowKit

/-- two rows that the call owns, apart from one another -/
def TwoR (w : World) (B : Nat) (v1 v2 : Value) (a b : List Int) : Prop := (∃ g c, v1 = .slice (some ⟨g, 0, none⟩) a.length c ∧ g < w.heap.size) ∧ (∃ g c, v2 = .slice (some ⟨g, 0, none⟩) b.length c ∧ g < w.heap.size) ∧ v1.ownBlock ≠ v2.ownBlock ∧ ON .i64 3 w B v1 a ∧ ON .i64 3 w B v2 b
theorem TwoR.symm {w : World} {B : Nat} {v1 v2 : Value} {a b : List Int} (h : TwoR w B v1 v2 a b) : TwoR w B v2 v1 b a := ⟨h.2.1, h.1, fun e => h.2.2.1 e.symm, h.2.2.2.2, h.2.2.2.1⟩
theorem TwoR.later {w w' : World} {B : Nat} {v1 v2 : Value} {a b : List Int} (l : AnyLater w w') (h : TwoR w B v1 v2 a b) : TwoR w' B v1 v2 a b := by
  obtain ⟨⟨g1, c1, e1, l1⟩, ⟨g2, c2, e2, l2⟩, h3, h4, h5⟩ := h
  exact ⟨⟨g1, c1, e1, Nat.lt_of_lt_of_le l1 l.below.size⟩, ⟨g2, c2, e2, Nat.lt_of_lt_of_le l2 l.below.size⟩, h3, h4.later l, h5.later l⟩
/-- a slice of one number, in a block that is no row's -/
def OneR (w : World) (u : Value) (z : Int) (r1 r2 : Value) : Prop := ∃ s, u = .slice (some ⟨s, 0, none⟩) 1 1 ∧ w.heap[s]? = some (.cells #[.int .i64 z] 3) ∧ r1.ownBlock ≠ some s ∧ r2.ownBlock ≠ some s
theorem OneR.symm {w : World} {u : Value} {z : Int} {r1 r2 : Value} (h : OneR w u z r1 r2) : OneR w u z r2 r1 := by
  obtain ⟨s, h1, h2, h3, h4⟩ := h
  exact ⟨s, h1, h2, h4, h3⟩
theorem OneR.later {w w' : World} {u : Value} {z : Int} {r1 r2 : Value} (l : AnyLater w w') (h : OneR w u z r1 r2) : OneR w' u z r1 r2 := by
  obtain ⟨s, h1, h2, h3, h4⟩ := h
  exact ⟨s, h1, any_own l h2, h3, h4⟩
theorem TwoR.app {w : World} {B : Nat} {v1 v2 u : Value} {a b : List Int} {x : Int} (h : TwoR w B v1 v2 a b) (hu : OneR w u x v1 v2) (hB : B ≤ w.heap.size) (hl : a.length ≤ 90000) :
    ∃ v' w2, (Builtin.append_ #[33, 33] 33 #[v1, u]).run Tryd.prog w = .ok v' w2 ∧ TwoR w2 B v' v2 (a ++ [x]) b ∧ (∀ W, W.heap.size ≤ B → AnyLater W w → AnyLater W w2) ∧ ∀ u' y, OneR w u' y v1 v2 → OneR w2 u' y v' v2 := by
  obtain ⟨-, ⟨g2, c2, rfl, l2⟩, h3, h4, h5⟩ := h
  obtain ⟨i0, hi0, hz0, hz1, hz2⟩ := info_parts info_i64
  obtain ⟨s, rfl, hs, -, -⟩ := hu
  obtain ⟨g, cap, w', k1, k2, k3, k4, k5⟩ := run_append_lies (P := Tryd.prog) (w := w) 33 33 B 3 i0 (.int .i64 0) 1 8 Tryd.underlying33 hi0 hz0 hz1 hz2 rfl (by decide) v1 a.length (a.map (Value.int .i64)) h4 ⟨s, 0, none⟩ 1 1 [.int .i64 x] rfl (fun j u hj => by
      cases j with
      | zero =>
        cases hj
        rw [addr_add]
        exact (own_row hs 0).trans rfl
      | succ j => simp at hj) (by intro u hu; simp at hu; subst hu; rfl) (by decide) (by unfold maxLen; omega) (by omega) hB _ rfl
  have hn : v1.ownBlock ≠ some g2 := by simpa [Value.ownBlock] using h3
  refine ⟨_, w', k1, ⟨⟨g, cap, by rw [List.length_append]; rfl, k5⟩, ⟨g2, c2, rfl, Nat.lt_of_lt_of_le l2 k3.size⟩, ?_, ?_, ?_⟩, fun W h1 h2 => grown_later h2 k3 (fun q hq => Nat.le_trans h1 (owns_base h4 q hq)), ?_⟩
  · show some g ≠ some g2
    rcases k4 with k4 | k4
    · rw [← k4]; exact hn
    · intro e
      have : g = g2 := by simpa using e
      omega
  · show w'.ownsRow B 3 1 _ (a ++ [x]).length ((a ++ [x]).map (Value.int .i64))
    rw [List.length_append, List.map_append]
    exact k2
  · refine ⟨h5.1, ?_⟩
    rcases h5.2 with q | ⟨g', c', cur, e, q2, q3, q4⟩
    · exact .inl q
    · cases e
      exact .inr ⟨g2, c2, cur, rfl, q2, grown_block k3 q3 hn, q4⟩
  · rintro u' y ⟨s', rfl, e1, e2, e3⟩
    refine ⟨s', rfl, grown_block k3 e1 e2, ?_, e3⟩
    show some g ≠ some s'
    rcases k4 with k4 | k4
    · rw [← k4]; exact e2
    · intro e
      have h1 : g = s' := by simpa using e
      have := own_lt e1
      omega
theorem twoR_new (w : World) : TwoR ((w.alloc (.cells #[] 3)).alloc (.cells #[] 3)) w.heap.size (.slice (some ⟨w.heap.size, 0, none⟩) 0 0) (.slice (some ⟨w.heap.size + 1, 0, none⟩) 0 0) [] [] :=
  ⟨⟨_, _, rfl, by simp only [World.size_alloc]; omega⟩, ⟨_, _, rfl, by simp only [World.size_alloc]; omega⟩, by simp [Value.ownBlock], ON.empty (Nat.le_refl _) (heap_old (by simp) (heap_new rfl)), ON.empty (Nat.le_succ _) (heap_new (by simp))⟩

/-- what is known while some of the four have been done: a slice of one number made, it appended, and so with the other row -/
structure S2 (w1 : World) (v1 v2 : Value) (a b : List Int) (x1 x2 : Int) (Lp Lq Mp Mq : Bool) (gp gq hp hq : Value) (x : World) : Prop where
  any : AnyLater w1 x
  two : TwoR x w1.heap.size (bif Lq then gq else v1) (bif Mq then hq else v2) (bif Lq then a ++ [x1] else a) (bif Mq then b ++ [x2] else b)
  s1 : Lp = true → Lq = false → OneR x gp x1 (bif Lq then gq else v1) (bif Mq then hq else v2)
  s2 : Mp = true → Mq = false → OneR x hp x2 (bif Lq then gq else v1) (bif Mq then hq else v2)
section
variable {w1 : World} {v1 v2 : Value} {a b : List Int} {x1 x2 : Int} {Lp Lq Mp Mq : Bool} {gp gq hp hq : Value} {x : World}
theorem S2.symm (h : S2 w1 v1 v2 a b x1 x2 Lp Lq Mp Mq gp gq hp hq x) : S2 w1 v2 v1 b a x2 x1 Mp Mq Lp Lq hp hq gp gq x := ⟨h.any, h.two.symm, fun p q => (h.s2 p q).symm, fun p q => (h.s1 p q).symm⟩
theorem S2.init (aw : AnyLater w1 x) (h : TwoR x w1.heap.size v1 v2 a b) : S2 w1 v1 v2 a b x1 x2 false false false false gp gq hp hq x.drew :=
  ⟨aw.drew, h, (fun p => by cases p), (fun p => by cases p)⟩
theorem S2.make (h : S2 w1 v1 v2 a b x1 x2 Lp Lq Mp Mq gp gq hp hq x) : S2 w1 v1 v2 a b x1 x2 true Lq Mp Mq (.slice (some ⟨x.heap.size, 0, none⟩) 1 1) gq hp hq (x.alloc (.cells #[.int .i64 x1] 3)) := by
  have ha := (AnyLater.refl x).alloc (.cells #[.int .i64 x1] 3)
  obtain ⟨⟨g1, c1, e1, l1⟩, ⟨g2, c2, e2, l2⟩, -⟩ := h.two
  refine ⟨h.any.trans ha, h.two.later ha, fun _ _ => ⟨_, rfl, heap_new rfl, ?_, ?_⟩, fun p q => (h.s2 p q).later ha⟩
  · rw [e1]; intro e
    have : g1 = x.heap.size := by simpa [Value.ownBlock] using e
    omega
  · rw [e2]; intro e
    have : g2 = x.heap.size := by simpa [Value.ownBlock] using e
    omega
theorem S2.app (h : S2 w1 v1 v2 a b x1 x2 Lp Lq Mp Mq gp gq hp hq x) (p : Lp = true) (q : Lq = false) (hl : a.length ≤ 90000) :
    ∃ v' x', (Builtin.append_ #[33, 33] 33 #[v1, gp]).run Tryd.prog x = .ok v' x' ∧ S2 w1 v1 v2 a b x1 x2 Lp true Mp Mq gp v' hp hq x' := by
  obtain ⟨ha, h2, h3, h4⟩ := h
  have h3 := h3 p q
  subst q
  obtain ⟨v', x', k1, k2, k3, k4⟩ := TwoR.app h2 h3 ha.below.size hl
  exact ⟨v', x', k1, k3 w1 (Nat.le_refl _) ha, k2, (fun _ q => by cases q), fun p q => k4 _ _ (h4 p q)⟩
theorem S2.fin (h : S2 w1 v1 v2 a b x1 x2 Lp true Mp true gp gq hp hq x) : AnyLater w1 x ∧ TwoR x w1.heap.size gq hq (a ++ [x1]) (b ++ [x2]) := ⟨h.any, h.two⟩
end
end Go.Proofs.YteplnejnhgmfiaaDoor
