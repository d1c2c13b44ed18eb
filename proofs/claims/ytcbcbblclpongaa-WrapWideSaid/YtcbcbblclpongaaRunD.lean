/- runs: the document's Styles, Of and Insert by contract. -/
import Derived.Test.YtcbcbblclpongaaRunC
import Derived.Lib.AppendZeros
namespace Go.Proofs.Ytcbcbblclpongaa
set_option linter.unusedSimpArgs false
set_option linter.unusedVariables false
set_option linter.unusedSectionVars false
open Go.RowKit

abbrev OI (w : World) (B : Nat) (v : Value) (l : List Int) : Prop := ON .i64 3 w B v l
/-- a call that answers with numbers in memory of its own -/
def RowI (W : World) (l : List Int) (e : Ending) (w' : World) : Prop := ∃ v, e = .returned v ∧ AnyLater W w' ∧ OI w' W.heap.size v l
theorem own_int0 (w : World) : OI (w.alloc (.cells #[] 3)) w.heap.size (.slice (some ⟨w.heap.size, 0, none⟩) 0 0) [] := ON.empty (Nat.le_refl _) (heap_new rfl)

/-! ### Styles -/
/-! ### Of -/
theorem flatN_set0 : ∀ (l : Runs) (j : Nat) (t : Int), (flatN l).set (j * 2) (.int .i64 t) = flatN (l.modify j fun b => (t, b.2))
  | [], j, t => by simp [flatN_nil]
  | b :: l, 0, t => rfl
  | b :: l, j + 1, t => by
    rw [flatN_cons, show (j + 1) * 2 = j * 2 + 1 + 1 by omega, List.set_cons_succ, List.set_cons_succ, flatN_set0 l j t, List.modify_succ_cons, flatN_cons]
theorem ofR_le : ∀ (l : List Int), ∀ r ∈ ofR l, 1 ≤ r.1 ∧ r.1 ≤ l.length
  | [], r, hr => by cases hr
  | s :: l, r, hr => by
    have ih := ofR_le l
    change r ∈ consR s (ofR l) at hr
    rw [List.length_cons]
    cases hl : ofR l with
    | nil =>
      rw [hl, consR_nil] at hr
      cases List.mem_singleton.1 hr
      exact ⟨by omega, by omega⟩
    | cons y q =>
      rw [hl] at hr ih
      obtain ⟨k, u⟩ := y
      have hy := ih (k, u) List.mem_cons_self
      simp only at hy
      rw [consR_cons] at hr
      split at hr
      · rcases List.mem_cons.1 hr with rfl | hr
        · exact ⟨by simp only; omega, by simp only; omega⟩
        · have := ih r (List.mem_cons_of_mem _ hr); exact ⟨this.1, by omega⟩
      · rcases List.mem_cons.1 hr with rfl | hr
        · exact ⟨by simp only; omega, by simp only; omega⟩
        · have := ih r hr; exact ⟨this.1, by omega⟩
theorem modify_last_id {l : Runs} {m : Nat} {t s : Int} (h : l[m]? = some (t, s)) (f : Int × Int → Int × Int) (g : Int × Int → Int × Int) (hfg : f (t, s) = g (t, s)) : l.modify m f = l.modify m g := by
  apply List.ext_getElem?
  intro i
  rw [List.getElem?_modify, List.getElem?_modify]
  by_cases e : m = i
  · subst e; rw [h]; simp [hfg]
  · simp [e]
theorem rown_store {w : World} {B : Nat} {e : TypeId} {size n cap g i : Nat} {xs : List Value} {x : Value} (o : w.ownsRow B e size (.slice (some ⟨g, 0, none⟩) n cap) n xs) (hi : i < xs.length) : (w.setCell ⟨g, i, none⟩ x).ownsRow B e size (.slice (some ⟨g, 0, none⟩) n cap) n (xs.set i x) := by
  refine ⟨by rw [List.length_set]; exact o.1, ?_⟩
  rcases o.2 with ⟨h1, _⟩ | ⟨g', cap', cur, h1, h2, h3, h4, h5, h6, h7⟩
  · cases h1
  · obtain ⟨rfl, rfl⟩ : g' = g ∧ cap' = cap := by cases h1; exact ⟨rfl, rfl⟩
    refine .inr ⟨g', cap', cur.setIfInBounds i x, rfl, h2, heap_at h3 rfl, h4, h5, by simpa using h6, ?_⟩
    rw [Array.toList_setIfInBounds, List.take_set, h7]
theorem take_two {l : List Int} {j : Nat} (h : j + 1 < l.length) : l.take (j + 1) = l.take j ++ [l[j]] ∧ l.take (j + 1 + 1) = l.take j ++ [l[j], l[j + 1]] := by
  refine ⟨List.take_succ_eq_append_getElem (by omega), ?_⟩
  rw [List.take_succ_eq_append_getElem h, List.take_succ_eq_append_getElem (by omega), List.append_assoc]
  rfl
end Go.Proofs.Ytcbcbblclpongaa
