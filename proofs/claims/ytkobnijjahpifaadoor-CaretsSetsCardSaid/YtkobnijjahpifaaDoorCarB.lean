/- carets, the maths of the stable sort: what is merged, where it parts. No code. -/
import Derived.Test.YtkobnijjahpifaaDoorCarA
namespace Go.Proofs.YtkobnijjahpifaaDoor
set_option linter.unusedSimpArgs false
set_option linter.unusedVariables false
set_option linter.unusedSectionVars false

/-- those that come later in the order, and stand ahead, change places with those behind -/
theorem filt_swap {A B : Qs} (h : ∀ a ∈ A, ∀ b ∈ B, leC a b = false) : Filt (A ++ B) (B ++ A) := by
  intro k
  rw [List.filter_append, List.filter_append]
  by_cases hA : A.filter (eqC k) = []
  · rw [hA]; simp
  · have hB : B.filter (eqC k) = [] := by
      rw [List.filter_eq_nil_iff]
      intro b hb hkb
      apply hA
      rw [List.filter_eq_nil_iff]
      intro a ha hka
      have := h a ha b hb
      rw [leC_not] at this
      rw [eqC_iff] at hkb hka
      omega
    rw [hB]; simp
theorem merge_split (A1 A2 B1 B2 : Qs) (hA : SortedC (A1 ++ A2)) (hB : SortedC (B1 ++ B2)) (c1 : ∀ a ∈ A1, ∀ b ∈ B2, leC a b = true) (c2 : ∀ a ∈ A2, ∀ b ∈ B1, leC a b = false) :
    sortC (A1 ++ B1) ++ sortC (A2 ++ B2) = sortC ((A1 ++ A2) ++ (B1 ++ B2)) := by
  apply sortC_eq
  · refine List.pairwise_append.2 ⟨sortC_sorted _, sortC_sorted _, fun a ha b hb => ?_⟩
    rw [sortC_mem, List.mem_append] at ha hb
    obtain ⟨_, _, hA3⟩ := List.pairwise_append.1 hA
    obtain ⟨_, _, hB3⟩ := List.pairwise_append.1 hB
    rcases ha with ha | ha <;> rcases hb with hb | hb
    · exact hA3 a ha b hb
    · exact c1 a ha b hb
    · exact leC_total (c2 b hb a ha)
    · exact hB3 a ha b hb
  · refine ((sortC_filt _).append (sortC_filt _)).trans ?_
    have e := ((Filt.refl A1).append (filt_swap c2).symm).append (Filt.refl B2)
    have e1 : A1 ++ B1 ++ (A2 ++ B2) = A1 ++ (B1 ++ A2) ++ B2 := by simp only [List.append_assoc]
    have e2 : A1 ++ A2 ++ (B1 ++ B2) = A1 ++ (A2 ++ B1) ++ B2 := by simp only [List.append_assoc]
    rw [e1, e2]
    exact e
theorem sorted_le {A : Qs} (h : SortedC A) {i j : Nat} (hij : i ≤ j) (hj : j < A.length) : leC (A[i]'(by omega)) A[j] = true := by
  rcases Nat.lt_or_ge i j with h1 | h1
  · exact List.pairwise_iff_getElem.1 h i j (by omega) hj h1
  · have e : i = j := by omega
    subst e
    exact leC_refl _
theorem cross_le {A B : Qs} (hA : SortedC A) (hB : SortedC B) {u q : Nat} (hu : u ≤ A.length) (h1 : ∀ (h : 0 < u) (k : q < B.length), leC (A[u - 1]'(by omega)) B[q] = true) : ∀ a ∈ A.take u, ∀ b ∈ B.drop q, leC a b = true := by
  intro a ha b hb
  obtain ⟨i, hi, rfl⟩ := List.mem_take_iff_getElem.1 ha
  obtain ⟨j, hj, rfl⟩ := List.mem_drop_iff_getElem.1 hb
  exact leC_trans (sorted_le hA (show i ≤ u - 1 by omega) (by omega)) (leC_trans (h1 (by omega) (by omega)) (sorted_le hB (show q ≤ q + j by omega) (by omega)))
theorem cross_lt {A B : Qs} (hA : SortedC A) (hB : SortedC B) {u q : Nat} (hq : q ≤ B.length) (h2 : ∀ (h : u < A.length) (k : 0 < q), leC A[u] (B[q - 1]'(by omega)) = false) : ∀ a ∈ A.drop u, ∀ b ∈ B.take q, leC a b = false := by
  intro a ha b hb
  obtain ⟨i, hi, rfl⟩ := List.mem_drop_iff_getElem.1 ha
  obtain ⟨j, hj, rfl⟩ := List.mem_take_iff_getElem.1 hb
  have e1 := sorted_le hA (show u ≤ u + i by omega) (by omega)
  have e2 := sorted_le hB (show j ≤ q - 1 by omega) (by omega)
  have e3 := h2 (by omega) (by omega)
  cases h : leC (A[u + i]'(by omega)) (B[j]'(by omega)) with
  | false => rfl
  | true =>
    have := leC_trans e1 (leC_trans h e2)
    rw [this] at e3
    cases e3
/-- two sorted lists parted at u and q become one -/
theorem merge_at {A B : Qs} (hA : SortedC A) (hB : SortedC B) {u q : Nat} (hu : u ≤ A.length) (hq : q ≤ B.length) (h1 : ∀ (h : 0 < u) (k : q < B.length), leC (A[u - 1]'(by omega)) B[q] = true) (h2 : ∀ (h : u < A.length) (k : 0 < q), leC A[u] (B[q - 1]'(by omega)) = false) :
    sortC (A.take u ++ B.take q) ++ sortC (A.drop u ++ B.drop q) = sortC (A ++ B) := by
  have e := merge_split (A.take u) (A.drop u) (B.take q) (B.drop q) (by rw [List.take_append_drop]; exact hA) (by rw [List.take_append_drop]; exact hB) (cross_le hA hB hu h1) (cross_lt hA hB hq h2)
  rwa [List.take_append_drop, List.take_append_drop] at e
theorem sorted_take {A : Qs} (h : SortedC A) (u : Nat) : SortedC (A.take u) := h.sublist (List.take_sublist _ _)
theorem sorted_drop {A : Qs} (h : SortedC A) (u : Nat) : SortedC (A.drop u) := h.sublist (List.drop_sublist _ _)
theorem one_left {B : Qs} (hB : SortedC B) (x : Ca) {q : Nat} (hq : q ≤ B.length) (h1 : ∀ h : q < B.length, leC x B[q] = true) (h2 : ∀ h : 0 < q, leC x (B[q - 1]'(by omega)) = false) : B.take q ++ x :: B.drop q = sortC (x :: B) := by
  have e := merge_at (A := [x]) (u := 0) (List.pairwise_singleton _ _) hB (Nat.zero_le _) hq (fun h => by omega) (fun _ k => h2 k)
  have e2 : sortC (x :: B.drop q) = x :: B.drop q := sortC_self (List.pairwise_cons.2 ⟨fun b hb => by
    obtain ⟨j, hj, rfl⟩ := List.mem_drop_iff_getElem.1 hb
    exact leC_trans (h1 (by omega)) (sorted_le hB (show q ≤ q + j by omega) (by omega)), sorted_drop hB q⟩)
  rw [List.take_zero, List.nil_append, sortC_self (sorted_take hB q), List.drop_zero, List.singleton_append, e2] at e
  exact e
theorem one_right {A : Qs} (hA : SortedC A) (y : Ca) {q : Nat} (hq : q ≤ A.length) (h1 : ∀ h : 0 < q, leC (A[q - 1]'(by omega)) y = true) (h2 : ∀ h : q < A.length, leC A[q] y = false) : A.take q ++ y :: A.drop q = sortC (A ++ [y]) := by
  rw [sortC_app, sortC_self hA, ins_at A y q hq hA h1 h2]
end Go.Proofs.YtkobnijjahpifaaDoor
