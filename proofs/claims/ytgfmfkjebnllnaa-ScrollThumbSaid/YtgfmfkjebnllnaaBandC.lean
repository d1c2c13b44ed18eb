/- band: Of, the good bands of rows that are told one by one. -/
import Derived.Test.YtgfmfkjebnllnaaBandB
namespace Go.Proofs.Ytgfmfkjebnllnaa
set_option linter.unusedSimpArgs false
set_option linter.unusedVariables false
set_option linter.unusedSectionVars false
open Go.RowKit

/-- a row of bools that a call made itself -/
def OBool (w : World) (B : Nat) (v : Value) (l : List Bool) : Prop := w.ownsRow B 4 1 v l.length (l.map Value.bool)
theorem OBool.later {w w' : World} {B : Nat} {v : Value} {l : List Bool} (h : OBool w B v l) (ha : AnyLater w w') : OBool w' B v l := owns_later ha h
/-- stores into a row of the call's own -/
theorem owns_store {w : World} {B : Nat} {e : TypeId} {size n cap g i : Nat} {xs : List Value} {x : Value} (o : w.ownsRow B e size (.slice (some ⟨g, 0, none⟩) n cap) n xs) (hi : i < xs.length) : (w.setCell ⟨g, i, none⟩ x).ownsRow B e size (.slice (some ⟨g, 0, none⟩) n cap) n (xs.set i x) := by
  refine ⟨by rw [List.length_set]; exact o.1, ?_⟩
  rcases o.2 with ⟨h1, _⟩ | ⟨g', cap', cur, h1, h2, h3, h4, h5, h6, h7⟩
  · cases h1
  · obtain ⟨rfl, rfl⟩ : g' = g ∧ cap' = cap := by cases h1; exact ⟨rfl, rfl⟩
    refine .inr ⟨g', cap', cur.setIfInBounds i x, rfl, h2, heap_at h3 rfl, h4, h5, by simpa using h6, ?_⟩
    rw [Array.toList_setIfInBounds, List.take_set, h7]
theorem flatB_set1 : ∀ (l : Bands) (j : Nat) (t : Int), (flatB l).set (j * 2 + 1) (.int .i64 t) = flatB (l.modify j fun b => (b.1, t))
  | [], j, t => by simp [flatB_nil]
  | b :: l, 0, t => rfl
  | b :: l, j + 1, t => by
    rw [flatB_cons, show (j + 1) * 2 + 1 = j * 2 + 1 + 1 + 1 by omega, List.set_cons_succ, List.set_cons_succ, flatB_set1 l j t, List.modify_succ_cons, flatB_cons]
/-- the good bands of the first rows grow -/
theorem ofR_succ (has : Nat → Bool) (n : Nat) : ofR has (n + 1) = if has n then (if 0 < n && has (n - 1) then (match ofR has n with | (f, _) :: r => (f, (n : Int) + 1 - 100) :: r | [] => []) else ((n : Int) - 100, (n : Int) + 1 - 100) :: ofR has n) else ofR has n := rfl
theorem modify_last {α : Type} (f : α → α) (x : α) : ∀ a : List α, (a ++ [x]).modify a.length f = a ++ [f x]
  | [] => rfl
  | b :: a => by rw [List.cons_append, List.length_cons, List.modify_succ_cons, modify_last f x a, List.cons_append]
theorem ofL_skip {has : Nat → Bool} {n : Nat} (h : has n = false) : ofL has (n + 1) = ofL has n := by
  unfold ofL; rw [ofR_succ, if_neg (by rw [h]; simp)]
theorem ofL_new {has : Nat → Bool} {n : Nat} (h : has n = true) (hp : ¬ (0 < n ∧ has (n - 1) = true)) : ofL has (n + 1) = ofL has n ++ [((n : Int) - 100, (n : Int) + 1 - 100)] := by
  unfold ofL
  rw [ofR_succ, if_pos h, if_neg (by simpa using hp), List.reverse_cons]
theorem ofL_more {has : Nat → Bool} {n : Nat} (h : has n = true) (hp : 0 < n ∧ has (n - 1) = true) (hn : n ≤ 1000000) : ∃ m, (ofL has n).length = m + 1 ∧ ofL has (n + 1) = (ofL has n).modify m fun b => (b.1, (n : Int) + 1 - 100) := by
  obtain ⟨f, r, hR⟩ := (ofR_inv has n hn).last.1 hp
  unfold ofL
  rw [ofR_succ, if_pos h, if_pos (by simpa using hp), hR]
  refine ⟨r.length, by simp, ?_⟩
  simp only [List.reverse_cons]
  have := modify_last (fun b : Int × Int => (b.1, (n : Int) + 1 - 100)) (f, (n : Int) - 100) r.reverse
  rw [List.length_reverse] at this
  exact this.symm
theorem ofL_length (has : Nat → Bool) : ∀ n, (ofL has n).length ≤ n
  | 0 => Nat.le_refl 0
  | n + 1 => by
    have ih := ofL_length has n
    unfold ofL at ih ⊢
    rw [List.length_reverse] at ih ⊢
    rw [ofR_succ]
    cases hR : ofR has n with
    | nil => split <;> (try split) <;> simp
    | cons b r =>
      rw [hR] at ih
      split <;> (try split) <;> simp at ih ⊢ <;> omega
/-- the row's block -/
theorem own_block {w : World} {B : Nat} {e : TypeId} {size m : Nat} {v : Value} {n : Nat} {xs : List Value} (o : w.ownsRow B e size v n xs) (hn : n = m + 1) :
    ∃ g cap cur, v = .slice (some ⟨g, 0, none⟩) (m + 1) cap ∧ B ≤ g ∧ w.heap[g]? = some (.cells cur e) ∧ n * size ≤ cur.size := by
  rcases o.2 with ⟨_, h0⟩ | ⟨g, cap, cur, rfl, h2, h3, h4, h5, h6, h7⟩
  · omega
  · exact ⟨g, cap, cur, by rw [hn], h2, h3, by rw [h6]; exact Nat.mul_le_mul_right _ h4⟩
end Go.Proofs.Ytgfmfkjebnllnaa
