/- band: merged, which makes bands in order one, in their own memory. -/
import Derived.Test.YtgfmfkjebnllnaaBandP
import Derived.ArgAppend
namespace Go.Proofs.Ytgfmfkjebnllnaa
set_option linter.unusedSimpArgs false
set_option linter.unusedVariables false
set_option linter.unusedSectionVars false
open Go.RowKit

/-! ### a block's cells as bands -/
def CellsB (cur : Array Value) (K : Bands) : Prop := ∀ (i : Nat) (h : i < K.length), cur[i * 2]? = some (.int .i64 K[i].1) ∧ cur[i * 2 + 1]? = some (.int .i64 K[i].2)
theorem CellsB.take {cur : Array Value} {K : Bands} (h : CellsB cur K) (hs : K.length * 2 ≤ cur.size) : cur.toList.take (K.length * 2) = flatB K := by
  apply List.ext_getElem?
  intro j
  by_cases hj : j < K.length * 2
  · rw [List.getElem?_take_of_lt hj, Array.getElem?_toList]
    have hk : j / 2 < K.length := by omega
    rcases Nat.mod_two_eq_zero_or_one j with hm | hm
    · have e : j = j / 2 * 2 := by omega
      rw [e, (h _ hk).1, flatB_0, List.getElem?_eq_getElem hk]; rfl
    · have e : j = j / 2 * 2 + 1 := by omega
      rw [e, (h _ hk).2, flatB_1, List.getElem?_eq_getElem hk]; rfl
  · rw [List.getElem?_eq_none (by rw [List.length_take]; omega), List.getElem?_eq_none (by rw [flatB_length]; omega)]
theorem CellsB.of_take {cur : Array Value} {K : Bands} (h : cur.toList.take (K.length * 2) = flatB K) : CellsB cur K := by
  intro i hi
  have e : ∀ k, k < K.length * 2 → cur[k]? = (flatB K)[k]? := fun k hk => by
    rw [← h, List.getElem?_take_of_lt hk]; simp
  rw [e _ (by omega), e _ (by omega), flatB_0, flatB_1, List.getElem?_eq_getElem hi]
  exact ⟨rfl, rfl⟩
/-- a row of bands at a known block -/
theorem OB.of_block {w : World} {B g cap : Nat} {cur : Array Value} {K : Bands} (hB : B ≤ g) (hg : w.heap[g]? = some (.cells cur 39)) (hk : K.length ≤ cap) (hm : cap ≤ maxLen) (hs : cur.size = cap * 2) (hc : CellsB cur K) : OB w B (.slice (some ⟨g, 0, none⟩) K.length cap) K :=
  ⟨flatB_length K, .inr ⟨g, cap, cur, rfl, hB, hg, hk, hm, hs, hc.take (by rw [hs]; omega)⟩⟩

/-- append where there is room: the new cells are written in place -/
theorem wpList_append_fit {P : Program} (w : World) {ops : Array Oper} {rest : List Oper} {o : Oper} {a : Act} {Q : Exit → Act → World → Prop} (hgd : o.guard = none) (s x : Operand) (t : TypeId)
    (ho : o.op = .call { callee := .builtin .append, args := #[s, x], argTypes := #[t, t] }) (e : TypeId) (i : TypeInfo) (size : Nat) (ht : P.underlying t = some (.slice e)) (hi : P.info? e = some i) (hsize : i.size = size)
    (g n cap : Nat) (cur : Array Value) (hs : a.eval s = .slice (some ⟨g, 0, none⟩) n cap) (hg : w.heap[g]? = some (.cells cur e))
    (ad : Addr) (m c : Nat) (news : List Value) (hx : a.eval x = .slice (some ad) m c) (hl : news.length = m * size) (hnews : ∀ j u, news[j]? = some u → w.cell? (ad.add j) = some u) (h1 : ∀ u ∈ news, u.oneCell' = true)
    (hroom : n + m ≤ cap) (hfit : n * size + news.length ≤ cur.size)
    (h : ∀ (w' : World) (cur' : Array Value), w'.heap[g]? = some (.cells cur' e) → cur'.size = cur.size → (∀ j, j < news.length → cur'[n * size + j]? = news[j]?) → (∀ j, j < n * size ∨ n * size + news.length ≤ j → cur'[j]? = cur[j]?) →
      (∀ W, AnyLater W w → W.heap.size ≤ g → AnyLater W w') → wpList P ops Q rest (a.put o.dst (.slice (some ⟨g, 0, none⟩) (n + m) cap)) w') : wpList P ops Q (o :: rest) a w := by
  subst hsize
  have hr := run_append_room (P := P) w t o.type e i ht hi g n cap cur hg ad m c news hl hnews h1 hroom hfit
  refine wpList_plain hgd fun K hK => ?_
  unfold Oper.wp execOp
  simp only [ho, resolve, invoke, builtin, Sem.run_bind, Sem.run_pure, Result.andThen_ok, List.map_toArray, List.map_cons, List.map_nil, hs, hx, hr]
  have hlen : (cur.toList.take (n * i.size)).length = n * i.size := by rw [List.length_take, Array.length_toList]; omega
  refine hK _ _ (h _ _ (setRow_heap w g cur _ e _ hg) ?_ ?_ ?_ ?_)
  · simp only [List.size_toArray, List.length_append, List.length_take, List.length_drop, Array.length_toList]; omega
  · intro j hj
    rw [List.getElem?_toArray, List.getElem?_append_left (by rw [List.length_append, hlen]; omega), List.getElem?_append_right (by rw [hlen]; omega), hlen, Nat.add_sub_cancel_left]
  · intro j hj
    rw [List.getElem?_toArray]
    rcases hj with hj | hj
    · rw [List.getElem?_append_left (by rw [List.length_append, hlen]; omega), List.getElem?_append_left (by rw [hlen]; omega), List.getElem?_take_of_lt hj, Array.getElem?_toList]
    · rw [List.getElem?_append_right (by rw [List.length_append, hlen]; omega), List.length_append, hlen, List.getElem?_drop, Array.getElem?_toList]
      congr 1; omega
  · intro W hW hWg
    exact .of ⟨hW.below.os, hW.below.tape, hW.below.output, by simpa [World.setRow] using hW.below.size, fun k hk => (setRow_other w g k _ (by omega)).trans (hW.below.block k hk)⟩

def hiZ (p q : Int) : Int := if q < p then p else q
theorem run_maxZ {P : Program} (w : World) (ts : Array TypeId) (t : TypeId) (p q : Int) : (Builtin.max_ ts t #[.int .i64 p, .int .i64 q]).run P w = .ok (.int .i64 (hiZ p q)) w := by
  rw [run_max_int2]; unfold hiZ; split <;> split <;> first | rfl | omega | (congr 2; omega)
theorem hiZ_in (p q : Int) : p ≤ hiZ p q ∧ q ≤ hiZ p q ∧ (hiZ p q ≤ p ∨ hiZ p q ≤ q) := by unfold hiZ; split <;> omega

/-- what is known of the block at round j -/
structure MergeAt (L : Bands) (j : Nat) (K : Bands) (cur : Array Value) : Prop where
  inv : MergeInv L j K
  kept : CellsB cur K
  rest : ∀ (i : Nat) (h : i < L.length), j ≤ i → cur[i * 2]? = some (.int .i64 L[i].1) ∧ cur[i * 2 + 1]? = some (.int .i64 L[i].2)
theorem MergeAt.fresh {L K : Bands} {j : Nat} {cur cur' : Array Value} (m : MergeAt L j K cur) (hj : j < L.length) (hf : Full L) (hs : Sorted L) (hk : ∀ b ∈ K, b.2 < L[j].1)
    (h0 : cur'[K.length * 2]? = some (.int .i64 L[j].1)) (h1 : cur'[K.length * 2 + 1]? = some (.int .i64 L[j].2)) (h2 : ∀ i, i < K.length * 2 ∨ K.length * 2 + 2 ≤ i → cur'[i]? = cur[i]?) : MergeAt L (j + 1) (K ++ [L[j]]) cur' := by
  refine ⟨m.inv.fresh hj hf hs hk, fun i hi => ?_, fun i hi hji => ?_⟩
  · rw [List.length_append, List.length_singleton] at hi
    by_cases e : i < K.length
    · rw [h2 _ (.inl (by omega)), h2 _ (.inl (by omega)), List.getElem_append_left e]
      exact m.kept i e
    · obtain rfl : i = K.length := by omega
      rw [h0, h1, List.getElem_append_right (Nat.le_refl _)]
      simp
  · have := m.inv.len
    rw [h2 _ (.inr (by omega)), h2 _ (.inr (by omega))]
    exact m.rest i hi (by omega)
theorem MergeAt.more {L K : Bands} {k : Int × Int} {j : Nat} {cur : Array Value} (m : MergeAt L j (K ++ [k]) cur) (hj : j < L.length) (hf : Full L) (hk : L[j].1 ≤ k.2) : MergeAt L (j + 1) (K ++ [(k.1, hiZ k.2 L[j].2)]) (cur.setIfInBounds (K.length * 2 + 1) (.int .i64 (hiZ k.2 L[j].2))) := by
  have hl := m.inv.len
  rw [List.length_append, List.length_singleton] at hl
  have hin := (m.kept K.length (by simp)).2
  have hlt : K.length * 2 + 1 < cur.size := by
    rcases Nat.lt_or_ge (K.length * 2 + 1) cur.size with h | h
    · exact h
    · rw [Array.getElem?_eq_none h] at hin; cases hin
  refine ⟨m.inv.more hj hf hk _ (hiZ_in _ _), fun i hi => ?_, fun i hi hji => ?_⟩
  · rw [List.length_append, List.length_singleton] at hi
    by_cases e : i < K.length
    · rw [Array.getElem?_setIfInBounds_ne (by omega), Array.getElem?_setIfInBounds_ne (by omega), List.getElem_append_left e]
      have := m.kept i (by rw [List.length_append]; omega)
      rwa [List.getElem_append_left e] at this
    · obtain rfl : i = K.length := by omega
      have := m.kept K.length (by simp)
      rw [Array.getElem?_setIfInBounds_ne (by omega), Array.getElem?_setIfInBounds_self_of_lt hlt, List.getElem_append_right (Nat.le_refl _)]
      rw [List.getElem_append_right (Nat.le_refl _)] at this
      simp only [Nat.sub_self, List.getElem_cons_zero] at this ⊢
      exact ⟨this.1, trivial⟩
  · rw [Array.getElem?_setIfInBounds_ne (by omega), Array.getElem?_setIfInBounds_ne (by omega)]
    exact m.rest i hi (by omega)
end Go.Proofs.Ytgfmfkjebnllnaa
