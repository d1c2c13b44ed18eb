/- what the proof stands on: ScnB -/
import Derived.Test.YtamhnffokoejjaaGreatDoorKnax
import Derived.Test.YtamhnffokoejjaaGreatDoorKnbg
namespace Go.Proofs.YtamhnffokoejjaaGreatDoor
set_option linter.unusedSimpArgs false
set_option linter.unusedVariables false
set_option linter.unusedSectionVars false
open Go.RowKit
def enR (r : Runs) (i : Nat) : Nat := (stylesR (r.take i)).length
def endsR (r : Runs) : List Int := (List.range r.length).map fun i => (enR r (i + 1) : Int)
theorem endsR_length (r : Runs) : (endsR r).length = r.length := by simp [endsR]
def Fairs (r : Runs) : Prop := ∀ x ∈ r, fairR x = true
theorem fairs_of {S : List Int} (hg : ∀ s ∈ S, goodS s = true) (hl : S.length ≤ 16777216) : Fairs (ofR S) := fun x hx => by
  obtain ⟨h1, h2, h3⟩ := ofR_fair hg x hx
  unfold fairR
  rw [h3, Bool.and_true, decide_eq_true_iff]; omega
theorem enR_succ {r : Runs} (h : Fairs r) {i : Nat} (hi : i < r.length) : (enR r (i + 1) : Int) = enR r i + r[i].1 := by
  unfold enR
  have hf := h _ (List.getElem_mem hi)
  rw [List.take_succ_eq_append_getElem hi, stylesR_append, List.length_append, stylesR_cons, stylesR_nil, List.append_nil]
  have := oneR_length (r := r[i])
  rw [if_pos hf] at this
  omega
theorem enR_le (r : Runs) (i : Nat) : enR r i ≤ (stylesR r).length := by
  unfold enR
  conv => rhs; rw [← List.take_append_drop i r]
  rw [stylesR_append, List.length_append]; omega
theorem enR_all (r : Runs) : enR r r.length = (stylesR r).length := by unfold enR; rw [List.take_length]
theorem enR_lt {r : Runs} (h : Fairs r) {i : Nat} (hi : i < r.length) : enR r i < enR r (i + 1) := by
  have := enR_succ h hi
  have := (fairR_in (h _ (List.getElem_mem hi))).1
  omega
theorem enR_mono {r : Runs} (h : Fairs r) : ∀ {i j : Nat}, i ≤ j → j ≤ r.length → enR r i ≤ enR r j
  | i, 0, hi, _ => by rw [Nat.le_zero.1 hi]; exact Nat.le_refl _
  | i, j + 1, hi, hj => by
    by_cases e : i = j + 1
    · rw [e]; exact Nat.le_refl _
    · exact Nat.le_trans (enR_mono h (by omega) (by omega)) (Nat.le_of_lt (enR_lt h (by omega)))
theorem cut_run {r : Runs} (h : Fairs r) {i : Nat} (hi : i < r.length) {f e : Nat} (h1 : enR r i ≤ f) (h2 : f ≤ e) (h3 : e ≤ enR r (i + 1)) : cutZ (stylesR r) f e = List.replicate (e - f) r[i].2 := by
  have hs := enR_succ h hi
  have hf := h _ (List.getElem_mem hi)
  have ho := (fairR_in hf).1
  have e1 : stylesR r = stylesR (r.take i) ++ (List.replicate r[i].1.toNat r[i].2 ++ stylesR (r.drop (i + 1))) := by
    conv => lhs; rw [← List.take_append_drop i r, List.drop_eq_getElem_cons hi]
    rw [stylesR_append, stylesR_cons]
    unfold oneR
    rw [if_pos hf]
  have hl : (stylesR (r.take i)).length = enR r i := rfl
  unfold cutZ
  rw [e1, Int.toNat_natCast, Int.toNat_natCast, List.drop_take, List.drop_append, hl, List.drop_of_length_le (by omega), List.nil_append, List.drop_append_of_le_length (by rw [List.length_replicate]; omega), List.drop_replicate, List.take_append_of_le_length (by rw [List.length_replicate]; omega), List.take_replicate]
  congr 1
  omega
theorem cutZ_join {S : List Int} {f m e : Nat} (h1 : f ≤ m) (h2 : m ≤ e) : cutZ S f m ++ cutZ S m e = cutZ S f e := by
  unfold cutZ
  simp only [Int.toNat_natCast]
  rw [List.drop_take, List.drop_take, List.drop_take, show e - f = (m - f) + (e - m) by omega, List.take_add, List.drop_drop, show f + (m - f) = m by omega]
theorem cutZ_length {S : List Int} {f e : Nat} (h : e ≤ S.length) : (cutZ S f e).length = e - f := by
  unfold cutZ
  rw [List.length_drop, List.length_take]; omega
theorem cutZ_nil (S : List Int) (f : Int) : cutZ S f f = [] := by
  unfold cutZ
  apply List.drop_of_length_le
  rw [List.length_take]; omega
theorem styles_more {Q : Runs} {r : Runs} (h : Fairs r) {i : Nat} (hi : i < r.length) {f0 f e : Nat} (hq : stylesR Q = cutZ (stylesR r) f0 f) (h0 : f0 ≤ f) (h1 : enR r i ≤ f) (h2 : f < e) (h3 : e ≤ enR r (i + 1)) : stylesR (Q ++ [((e : Int) - f, r[i].2)]) = cutZ (stylesR r) f0 e := by
  have hs := enR_succ h hi
  obtain ⟨g1, g2, g3⟩ := fairR_in (h _ (List.getElem_mem hi))
  rw [stylesR_append, hq, ← cutZ_join h0 (Nat.le_of_lt h2), cut_run h hi h1 (Nat.le_of_lt h2) h3, stylesR_cons, stylesR_nil, List.append_nil]
  unfold oneR
  rw [if_pos (by unfold fairR; rw [g3, Bool.and_true, decide_eq_true_iff]; omega)]
  congr 2
  omega
def pre : List Int → List Int → Nat
  | x :: a, y :: b => if x = y then pre a b + 1 else 0
  | _, _ => 0
end Go.Proofs.YtamhnffokoejjaaGreatDoor
