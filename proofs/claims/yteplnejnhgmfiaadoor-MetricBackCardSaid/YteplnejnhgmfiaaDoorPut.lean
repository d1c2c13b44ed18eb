/- A row of structs that the call owns, written in place, struct by struct. No condition. -/
import Derived.Test.YteplnejnhgmfiaaDoorFlat
import Derived.Laws.IdiomCopy
import Derived.Laws.OwnMore
namespace Go.Proofs.YteplnejnhgmfiaaDoor
set_option linter.unusedSimpArgs false
set_option linter.unusedVariables false
set_option linter.unusedSectionVars false
open Go.RowKit

theorem put_cells {g : Nat} {e : TypeId} : ∀ (vs : List Value) (o : Nat) (w : World) (cur : Array Value), w.heap[g]? = some (.cells cur e) → o + vs.length ≤ cur.size → ∃ cur', (w.setCells g o vs).heap[g]? = some (.cells cur' e) ∧ cur'.size = cur.size ∧
    ∀ k, cur'[k]? = if o ≤ k ∧ k < o + vs.length then vs[k - o]? else cur[k]?
  | [], o, w, cur, h, _ => ⟨cur, h, rfl, fun k => by rw [if_neg (by simp)]⟩
  | v :: vs, o, w, cur, h, hs => by
    rw [List.length_cons] at hs
    obtain ⟨c', h1, h2, h3⟩ := put_cells vs (o + 1) (w.setCell ⟨g, o, none⟩ v) _ (heap_at h rfl) (by rw [Array.size_setIfInBounds]; omega)
    refine ⟨c', h1, by simpa using h2, fun k => ?_⟩
    rw [h3 k, List.length_cons]
    by_cases q : k = o
    · subst q
      rw [if_neg (by omega), if_pos (by omega), Nat.sub_self, Array.getElem?_setIfInBounds_self, if_pos (by omega)]; rfl
    · rw [Array.getElem?_setIfInBounds_ne (fun e => q e.symm)]
      by_cases q2 : o + 1 ≤ k ∧ k < o + 1 + vs.length
      · rw [if_pos q2, if_pos (by omega), show k - o = (k - (o + 1)) + 1 by omega, List.getElem?_cons_succ]
      · rw [if_neg q2, if_neg (by omega)]
theorem owns_setCells {B : Nat} {e t : TypeId} {size g : Nat} {v : Value} {n : Nat} {xs : List Value} (hne : t ≠ e) : ∀ (vs : List Value) (o : Nat) (w : World) (cs : Array Value), w.heap[g]? = some (.cells cs t) → w.ownsRow B e size v n xs → (w.setCells g o vs).ownsRow B e size v n xs
  | [], _, _, _, _, h => h
  | x :: vs, o, w, cs, hg, h => owns_setCells hne vs (o + 1) _ _ (heap_at hg rfl) (owns_set hg hne x o h)
theorem any_setCells {W : World} {g : Nat} (hg : W.heap.size ≤ g) : ∀ (vs : List Value) (o : Nat) (w : World), AnyLater W w → AnyLater W (w.setCells g o vs)
  | [], _, _, h => h
  | v :: vs, o, w, h => any_setCells hg vs (o + 1) _ (h.setCell (p := ⟨g, o, none⟩) hg v)
section
variable {α : Type} {F : Flat α}
theorem row_set {l : List α} {i : Nat} (a : α) (h : i < l.length) (k : Nat) (hk : k < l.length * F.k) : (F.row (l.set i a))[k]? = if i * F.k ≤ k ∧ k < i * F.k + F.k then (F.fl a)[k - i * F.k]? else (F.row l)[k]? := by
  have hq : k / F.k < l.length := (Nat.div_lt_iff_lt_mul F.pos).2 hk
  have hm : k % F.k < F.k := Nat.mod_lt _ F.pos
  have e : k = k / F.k * F.k + k % F.k := by rw [Nat.mul_comm]; exact (Nat.div_add_mod k F.k).symm
  generalize k / F.k = q at *
  generalize k % F.k = m at *
  subst e
  rw [F.row_get _ q m hm, F.row_get _ q m hm]
  by_cases hi : i = q
  · subst hi
    rw [List.getElem?_set_self h, if_pos (by omega), Nat.add_sub_cancel_left]; rfl
  · rw [List.getElem?_set_ne hi, if_neg]
    rintro ⟨h1, h2⟩
    rcases Nat.lt_or_gt_of_ne hi with h3 | h3
    · have := Nat.mul_le_mul_right F.k (show i + 1 ≤ q from h3)
      rw [Nat.add_mul, Nat.one_mul] at this
      omega
    · have := Nat.mul_le_mul_right F.k (show q + 1 ≤ i from h3)
      rw [Nat.add_mul, Nat.one_mul] at this
      omega
/-- v[i] = a -/
theorem OF.put {t : TypeId} {w : World} {B g n cap : Nat} {l : List α} {i : Nat} (a : α) (h : OF F t w B (.slice (some ⟨g, 0, none⟩) n cap) l) (hi : i < l.length) : OF F t (w.setCells g (i * F.k) (F.fl a)) B (.slice (some ⟨g, 0, none⟩) n cap) (l.set i a) := by
  refine ⟨by rw [F.row_length], ?_⟩
  rcases h.2 with ⟨e, _⟩ | ⟨g', cap', cur, e, h2, h3, h4, h5, h6, h7⟩
  · cases e
  · cases e
    have hb : i * F.k + F.k ≤ l.length * F.k := by
      have := Nat.mul_le_mul_right F.k (show i + 1 ≤ l.length from hi)
      rwa [Nat.add_mul, Nat.one_mul] at this
    have hb2 : l.length * F.k ≤ cap * F.k := Nat.mul_le_mul_right F.k h4
    obtain ⟨cur', k1, k2, k3⟩ := put_cells (F.fl a) (i * F.k) w cur h3 (by rw [F.len, h6]; omega)
    refine .inr ⟨g, cap, cur', by rw [List.length_set], h2, k1, by rw [List.length_set]; exact h4, h5, by rw [k2, h6], ?_⟩
    rw [List.length_set]
    apply List.ext_getElem?
    intro k
    by_cases hk : k < l.length * F.k
    · rw [List.getElem?_take_of_lt hk, Array.getElem?_toList, k3 k, row_set a hi k hk, F.len]
      split
      · rfl
      · have : (cur.toList.take (l.length * F.k))[k]? = (F.row l)[k]? := by rw [h7]
        rw [List.getElem?_take_of_lt hk, Array.getElem?_toList] at this
        exact this
    · rw [List.getElem?_eq_none (by rw [List.length_take]; omega), List.getElem?_eq_none (by rw [F.row_length, List.length_set]; omega)]
/-- where such a row lies, and what its cells are -/
theorem OF.where {t : TypeId} {w : World} {B : Nat} {v : Value} {l : List α} (h : OF F t w B v l) (h0 : 0 < l.length) : ∃ g cap cur, v = .slice (some ⟨g, 0, none⟩) l.length cap ∧ B ≤ g ∧ w.heap[g]? = some (.cells cur t) ∧ ∀ (j : Nat) (hj : j < l.length) (i : Nat), i < F.k → cur[j * F.k + i]? = (F.fl l[j])[i]? := by
  rcases h.2 with ⟨e, e0⟩ | ⟨g, cap, cur, e, h2, h3, h4, h5, h6, h7⟩
  · omega
  · refine ⟨g, cap, cur, e, h2, h3, fun j hj i hi => ?_⟩
    have hk : j * F.k + i < l.length * F.k := by
      have := Nat.mul_le_mul_right F.k (show j + 1 ≤ l.length from hj)
      rw [Nat.add_mul, Nat.one_mul] at this
      omega
    have : (cur.toList.take (l.length * F.k))[j * F.k + i]? = (F.row l)[j * F.k + i]? := by rw [h7]
    rw [List.getElem?_take_of_lt hk, Array.getElem?_toList, F.row_get l j i hi, List.getElem?_eq_getElem hj] at this
    exact this
/-- one field of a struct of a row is written -/
theorem OF.field {t : TypeId} {w : World} {B g n cap : Nat} {l : List α} {i : Nat} (a : α) (m : Nat) (u : Value) (h : OF F t w B (.slice (some ⟨g, 0, none⟩) n cap) l) (hi : i < l.length) (hm : m < F.k) (ha : F.fl a = (F.fl l[i]).set m u) : OF F t (w.setCell ⟨g, i * F.k + m, none⟩ u) B (.slice (some ⟨g, 0, none⟩) n cap) (l.set i a) := by
  refine ⟨by rw [F.row_length], ?_⟩
  rcases h.2 with ⟨e, _⟩ | ⟨g', cap', cur, e, h2, h3, h4, h5, h6, h7⟩
  · cases e
  · cases e
    have hb : i * F.k + F.k ≤ l.length * F.k := by
      have := Nat.mul_le_mul_right F.k (show i + 1 ≤ l.length from hi)
      rwa [Nat.add_mul, Nat.one_mul] at this
    have hb2 : l.length * F.k ≤ cap * F.k := Nat.mul_le_mul_right F.k h4
    obtain ⟨cur', k1, k2, k3⟩ := put_cells [u] (i * F.k + m) w cur h3 (by rw [h6]; simp; omega)
    refine .inr ⟨g, cap, cur', by rw [List.length_set], h2, k1, by rw [List.length_set]; exact h4, h5, by rw [k2, h6], ?_⟩
    rw [List.length_set]
    apply List.ext_getElem?
    intro k
    by_cases hk : k < l.length * F.k
    · have old : cur[k]? = (F.row l)[k]? := by
        have : (cur.toList.take (l.length * F.k))[k]? = (F.row l)[k]? := by rw [h7]
        rw [List.getElem?_take_of_lt hk, Array.getElem?_toList] at this
        exact this
      rw [List.getElem?_take_of_lt hk, Array.getElem?_toList, k3 k, row_set a hi k hk]
      by_cases q : i * F.k ≤ k ∧ k < i * F.k + F.k
      · rw [if_pos q, ha]
        by_cases q2 : k = i * F.k + m
        · subst q2
          rw [if_pos (by simp), Nat.add_sub_cancel_left, Nat.sub_self, List.getElem?_set_self (by rw [F.len]; exact hm)]; rfl
        · rw [if_neg (by simp; omega), List.getElem?_set_ne (by omega), old]
          have := F.row_get l i (k - i * F.k) (by omega)
          rw [show i * F.k + (k - i * F.k) = k by omega, List.getElem?_eq_getElem hi] at this
          exact this
      · rw [if_neg q, if_neg (by simp; omega), old]
    · rw [List.getElem?_eq_none (by rw [List.length_take]; omega), List.getElem?_eq_none (by rw [F.row_length, List.length_set]; omega)]
/-- make([]T, n) -/
theorem makeF {t s : TypeId} {z : Value} {bytes : Nat} (T : FlatT F t s z bytes) (a : α) (ha : z.cells.toList = F.fl a) (n : Nat) (hn : n ≤ 190000) (w : World) :
    ∃ w2, (Instr.makeSlice s (.int .i64 (n : Int)) (.int .i64 (n : Int))).run Tryd.prog w = .ok (.slice (some ⟨w.heap.size, 0, none⟩) n n) w2 ∧ AnyLater w w2 ∧ OF F t w2 w.heap.size (.slice (some ⟨w.heap.size, 0, none⟩) n n) (List.replicate n a) := by
  obtain ⟨i0, hi0, hz0, hz1, hz2⟩ := info_parts T.info
  obtain ⟨w2, k1, k2, k3⟩ := run_make_full (P := Tryd.prog) w w.heap.size s t i0 z F.k T.und hi0 hz0 hz1 .i64 .i64 n (by rw [hz2, Nat.mul_comm]; have := T.bound (n := n) (by omega); omega) (by unfold maxLen; omega) (Nat.le_refl _)
  refine ⟨w2, k1, grown_later (AnyLater.refl w) k3 (fun q hq => by cases hq), ?_⟩
  have hs := T.zero
  have e : (madeCells z.cells (n * F.k)).toList = F.row (List.replicate n a) := by
    apply List.ext_getElem?
    intro q
    rcases Nat.lt_or_ge q (n * F.k) with hq | hq
    · have hk : q / F.k < n := (Nat.div_lt_iff_lt_mul F.pos).2 hq
      have hm : q % F.k < F.k := Nat.mod_lt _ F.pos
      have e2 : q = q / F.k * F.k + q % F.k := by rw [Nat.mul_comm]; exact (Nat.div_add_mod q F.k).symm
      have h1 := F.row_get (List.replicate n a) (q / F.k) (q % F.k) hm
      rw [← e2, List.getElem?_replicate, if_pos hk, Option.bind_some, ← ha] at h1
      have hmz : q % F.k < z.cells.size := by rw [hs]; exact hm
      rw [h1, Array.getElem?_toList, Array.getElem?_toList]
      simp [madeCells, hq, hs, hm, Array.getElem?_eq_getElem hmz, getElem!_def]
    · rw [List.getElem?_eq_none (by simp [madeCells]; omega), List.getElem?_eq_none (by rw [F.row_length, List.length_replicate]; exact hq)]
  rw [e] at k2
  show w2.ownsRow _ _ _ _ (List.replicate n a).length _
  rw [List.length_replicate]
  exact k2
end
end Go.Proofs.YteplnejnhgmfiaaDoor
