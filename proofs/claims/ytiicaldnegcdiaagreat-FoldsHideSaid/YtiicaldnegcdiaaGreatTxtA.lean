/- text: lines as plain mathematics: where each begins and ends, and in which a place lies. -/
import Derived.Test.YtiicaldnegcdiaaGreatRopA
namespace Go.Proofs.YtiicaldnegcdiaaGreat
set_option linter.unusedSimpArgs false
set_option linter.unusedVariables false
set_option linter.unusedSectionVars false
open Go.RowKit

/-- where the line k begins, and where it ends, if the line feeds stand at F and there are n bytes -/
def lnS (F : List Int) (k : Nat) : Int := if k = 0 then 0 else F.getD (k - 1) 0 + 1
def lnE (F : List Int) (n : Int) (k : Nat) : Int := if k < F.length then F.getD k 0 else n
def lnP : Int → List Int → List (Int × Int)
  | _, [] => []
  | s, f :: F => (s, f) :: lnP (f + 1) F
def lnT : Int → List Int → Int
  | s, [] => s
  | _, f :: F => lnT (f + 1) F
theorem lnP_snoc : ∀ (s : Int) (F : List Int) (x : Int), lnP s (F ++ [x]) = lnP s F ++ [(lnT s F, x)]
  | _, [], _ => rfl
  | s, f :: F, x => by rw [List.cons_append]; simp only [lnP, lnT]; rw [lnP_snoc (f + 1) F x]; rfl
theorem lnT_snoc : ∀ (s : Int) (F : List Int) (x : Int), lnT s (F ++ [x]) = x + 1
  | _, [], _ => rfl
  | s, f :: F, x => by rw [List.cons_append]; simp only [lnT]; exact lnT_snoc (f + 1) F x
theorem lnP_length : ∀ (s : Int) (F : List Int), (lnP s F).length = F.length
  | _, [] => rfl
  | s, f :: F => by simp only [lnP, List.length_cons]; rw [lnP_length]
theorem lnP_get : ∀ (s : Int) (F : List Int) (k : Nat), k < F.length → (lnP s F)[k]? = some (if k = 0 then s else F.getD (k - 1) 0 + 1, F.getD k 0)
  | _, [], k, h => absurd h (Nat.not_lt_zero k)
  | s, f :: F, 0, _ => rfl
  | s, f :: F, k + 1, h => by
    have h' : k < F.length := by simpa using h
    simp only [lnP, List.getElem?_cons_succ]
    rw [lnP_get (f + 1) F k h']
    cases k with
    | zero => simp
    | succ k => simp
theorem lnT_eq : ∀ (s : Int) (F : List Int), lnT s F = if F.length = 0 then s else F.getD (F.length - 1) 0 + 1
  | _, [] => rfl
  | s, f :: F => by
    simp only [lnT]
    rw [lnT_eq (f + 1) F]
    cases F with
    | nil => simp
    | cons g G => simp
/-- all lines -/
def lnL (F : List Int) (n : Int) : List (Int × Int) := lnP 0 F ++ [(lnT 0 F, n)]
theorem lnL_length (F : List Int) (n : Int) : (lnL F n).length = F.length + 1 := by unfold lnL; rw [List.length_append, lnP_length]; rfl
theorem lnL_get (F : List Int) (n : Int) (k : Nat) (h : k < (lnL F n).length) : (lnL F n)[k] = (lnS F k, lnE F n k) := by
  rw [lnL_length] at h
  have e : (lnL F n)[k]? = some (lnS F k, lnE F n k) := by
    unfold lnL lnS lnE
    by_cases hk : k < F.length
    · rw [List.getElem?_append_left (by rw [lnP_length]; exact hk), lnP_get 0 F k hk, if_pos hk]
    · have hk2 : k = F.length := by omega
      subst hk2
      rw [List.getElem?_append_right (by rw [lnP_length]; omega), lnP_length, Nat.sub_self, if_neg hk, lnT_eq]
      rfl
  rw [List.getElem?_eq_some_iff] at e
  exact e.2

/-! ### what holds of where line feeds stand -/
structure FeedsOk (F : List Int) (n : Int) : Prop where
  up : ∀ i j, i < j → j < F.length → F.getD i 0 < F.getD j 0
  lo : ∀ i, i < F.length → 0 ≤ F.getD i 0
  hi : ∀ i, i < F.length → F.getD i 0 < n
  n0 : 0 ≤ n
  nn : (F.length : Int) ≤ n
theorem getD_in {F : List Int} {i : Nat} (h : i < F.length) : F.getD i 0 = F[i] := by simp [List.getD_eq_getElem?_getD, h]
theorem feedsOk (L : List Int) : FeedsOk (feN 0 L) L.length := by
  refine ⟨fun i j hij hj => ?_, fun i h => ?_, fun i h => ?_, by omega, by have := feN_le L 0; omega⟩
  · rw [getD_in (Nat.lt_trans hij hj), getD_in hj]
    exact List.pairwise_iff_getElem.1 (feN_sorted L 0) i j (Nat.lt_trans hij hj) hj hij
  · rw [getD_in h]
    exact (feN_mem L 0 _ (List.getElem_mem h)).1
  · rw [getD_in h]
    have := (feN_mem L 0 _ (List.getElem_mem h)).2
    omega
theorem FeedsOk.s0 {F : List Int} {n : Int} (h : FeedsOk F n) {k : Nat} (hk : k ≤ F.length) : 0 ≤ lnS F k := by
  unfold lnS
  split
  · exact Int.le_refl _
  · have := h.lo (k - 1) (by omega)
    omega
theorem FeedsOk.se {F : List Int} {n : Int} (h : FeedsOk F n) {k : Nat} (hk : k ≤ F.length) : lnS F k ≤ lnE F n k := by
  unfold lnS lnE
  split
  · split
    · exact h.lo k (by assumption)
    · exact h.n0
  · split
    · have := h.up (k - 1) k (by omega) (by assumption)
      omega
    · have := h.hi (k - 1) (by omega)
      omega
theorem FeedsOk.en {F : List Int} {n : Int} (h : FeedsOk F n) {k : Nat} (hk : k ≤ F.length) : lnE F n k ≤ n := by
  unfold lnE
  split
  · have := h.hi k (by assumption)
    omega
  · exact Int.le_refl _

/-! ### the line of a place -/
theorem below_lt : ∀ (F : List Int) (x : Int) (j : Nat), j < below x F → j < F.length ∧ F.getD j 0 < x
  | [], x, j, h => absurd h (by simp [below])
  | f :: F, x, j, h => by
    unfold below at h
    by_cases hf : f < x
    · rw [List.takeWhile_cons_of_pos (by simpa using hf)] at h
      cases j with
      | zero => exact ⟨by simp, by simpa using hf⟩
      | succ j =>
        have := below_lt F x j (by unfold below; simpa using h)
        exact ⟨by simpa using this.1, by simpa using this.2⟩
    · rw [List.takeWhile_cons_of_neg (by simpa using hf)] at h
      exact absurd h (by simp)
theorem below_le : ∀ (F : List Int) (x : Int), below x F ≤ F.length
  | [], x => by simp [below]
  | f :: F, x => by
    unfold below
    by_cases hf : f < x
    · rw [List.takeWhile_cons_of_pos (by simpa using hf), List.length_cons, List.length_cons]
      exact Nat.succ_le_succ (below_le F x)
    · rw [List.takeWhile_cons_of_neg (by simpa using hf)]; simp
theorem below_at : ∀ (F : List Int) (x : Int), below x F < F.length → x ≤ F.getD (below x F) 0
  | [], x, h => absurd h (by simp)
  | f :: F, x, h => by
    by_cases hf : f < x
    · have e : below x (f :: F) = below x F + 1 := by unfold below; rw [List.takeWhile_cons_of_pos (by simpa using hf)]; rfl
      rw [e] at h ⊢
      have := below_at F x (by simpa using h)
      simpa using this
    · have e : below x (f :: F) = 0 := by unfold below; rw [List.takeWhile_cons_of_neg (by simpa using hf)]; rfl
      rw [e]
      simp; omega
/-- the line of a place -/
theorem below_ln {F : List Int} {n x : Int} (h0 : 0 ≤ x) (hn : x ≤ n) : below x F ≤ F.length ∧ lnS F (below x F) ≤ x ∧ x ≤ lnE F n (below x F) ∧ ∀ j, j < below x F → lnE F n j < x := by
  refine ⟨below_le F x, ?_, ?_, fun j hj => ?_⟩
  · unfold lnS
    split
    · exact h0
    · have := (below_lt F x (below x F - 1) (by omega)).2
      omega
  · unfold lnE
    split
    · exact below_at F x (by assumption)
    · exact hn
  · have := below_lt F x j hj
    unfold lnE
    rw [if_pos this.1]
    exact this.2
end Go.Proofs.YtiicaldnegcdiaaGreat
