/- band: plain mathematics of what the program does: bounds brought within, bands in order made one, two good lists walked side by side, the gaps of good bands, how many rows there are. No condition. -/
import Derived.Test.YtgfmfkjebnllnaaBandM
namespace Go.Proofs.Ytgfmfkjebnllnaa
set_option linter.unusedSimpArgs false
set_option linter.unusedVariables false
set_option linter.unusedSectionVars false

/-- n, brought between low and high; low, if low is above high -/
def clZ (n lo hi : Int) : Int := if n < lo ∨ hi < lo then lo else if hi < n then hi else n
def clB (b : Int × Int) (f t : Int) : Int × Int := (clZ b.1 f t, clZ b.2 f t)
def edgeB (b : Int × Int) : Int × Int := clB b (-1073741824) 1073741824
theorem clZ_in {n lo hi : Int} (h : lo ≤ hi) : lo ≤ clZ n lo hi ∧ clZ n lo hi ≤ hi := by unfold clZ; split; omega; split <;> omega
theorem clZ_rows {n m lo hi y : Int} : (clZ n lo hi ≤ y ∧ y < clZ m lo hi) ↔ (n ≤ y ∧ y < m ∧ lo ≤ y ∧ y < hi) := by
  unfold clZ
  split
  · split
    · omega
    · split <;> omega
  · split
    · split
      · omega
      · split <;> omega
    · split
      · omega
      · split <;> omega
theorem edge_rows (b : Int × Int) (y : Int) : ((edgeB b).1 ≤ y ∧ y < (edgeB b).2) ↔ (b.1 ≤ y ∧ y < b.2 ∧ -1073741824 ≤ y ∧ y < 1073741824) := clZ_rows
theorem edge_in (b : Int × Int) : -1073741824 ≤ (edgeB b).1 ∧ (edgeB b).1 ≤ 1073741824 ∧ -1073741824 ≤ (edgeB b).2 ∧ (edgeB b).2 ≤ 1073741824 := by
  have h1 := clZ_in (n := b.1) (lo := -1073741824) (hi := 1073741824) (by omega)
  have h2 := clZ_in (n := b.2) (lo := -1073741824) (hi := 1073741824) (by omega)
  exact ⟨h1.1, h1.2, h2.1, h2.2⟩
theorem edge_same {b : Int × Int} (h : -1073741824 ≤ b.1 ∧ b.1 ≤ 1073741824 ∧ -1073741824 ≤ b.2 ∧ b.2 ≤ 1073741824) : edgeB b = b := by
  unfold edgeB clB clZ
  rw [if_neg (by omega), if_neg (by omega), if_neg (by omega), if_neg (by omega)]

/-- all bounds within the edges, and each has rows -/
def Full (L : Bands) : Prop := ∀ b ∈ L, -1073741824 ≤ b.1 ∧ b.1 < b.2 ∧ b.2 ≤ 1073741824
theorem inB_full {L : Bands} (h : Full L) (y : Int) : inB L y = L.any fun b => decide (b.1 ≤ y ∧ y < b.2) := by
  unfold inB
  rw [Bool.eq_iff_iff, List.any_eq_true, List.any_eq_true]
  constructor
  · rintro ⟨b, hb, hy⟩
    have := of_decide_eq_true hy
    exact ⟨b, hb, decide_eq_true ⟨this.1, this.2.1⟩⟩
  · rintro ⟨b, hb, hy⟩
    have := of_decide_eq_true hy
    have := h b hb
    exact ⟨b, hb, decide_eq_true (by omega)⟩

/-! ### bands in order, made one -/
structure MergeInv (L : Bands) (j : Nat) (K : Bands) : Prop where
  len : K.length ≤ j
  good : GoodL K
  rows : ∀ y, inB K y = inB (L.take j) y
  low : ∀ b ∈ K, ∀ (i : Nat) (h : i < L.length), j ≤ i → b.1 ≤ L[i].1
def Sorted (L : Bands) : Prop := ∀ (i j : Nat) (hj : j < L.length) (hij : i < j), (L[i]'(Nat.lt_trans hij hj)).1 ≤ L[j].1
theorem MergeInv.zero (L : Bands) : MergeInv L 0 [] := ⟨Nat.le_refl _, GoodL.nil, fun y => by rw [List.take_zero], by simp⟩
theorem take_one {L : Bands} {j : Nat} (h : j < L.length) (y : Int) : inB (L.take (j + 1)) y = (inB (L.take j) y || decide (L[j].1 ≤ y ∧ y < L[j].2 ∧ -1073741824 ≤ y ∧ y < 1073741824)) := by
  rw [List.take_succ_eq_append_getElem h, inB_append, inB_cons, inB_nil, Bool.or_false]
theorem MergeInv.fresh {L K : Bands} {j : Nat} (m : MergeInv L j K) (hj : j < L.length) (hf : Full L) (hs : Sorted L) (hk : ∀ b ∈ K, b.2 < L[j].1) : MergeInv L (j + 1) (K ++ [L[j]]) := by
  refine ⟨by rw [List.length_append, List.length_singleton]; have := m.len; omega, ⟨?_, ?_⟩, ?_, ?_⟩
  · intro b hb
    rcases List.mem_append.1 hb with hb | hb
    · exact m.good.1 b hb
    · obtain rfl := List.mem_singleton.1 hb
      exact hf _ (List.getElem_mem hj)
  · rw [List.pairwise_append]
    refine ⟨m.good.2, List.pairwise_singleton _ _, fun a ha b hb => ?_⟩
    obtain rfl := List.mem_singleton.1 hb
    exact hk a ha
  · intro y
    rw [inB_append, inB_cons, inB_nil, Bool.or_false, take_one hj, m.rows]
  · intro b hb i hi hji
    rcases List.mem_append.1 hb with hb | hb
    · exact m.low b hb i hi (by omega)
    · obtain rfl := List.mem_singleton.1 hb
      exact hs j i hi (by omega)
theorem MergeInv.more {L K : Bands} {k : Int × Int} {j : Nat} (m : MergeInv L j (K ++ [k])) (hj : j < L.length) (hf : Full L) (hk : L[j].1 ≤ k.2) (v : Int) (hv : k.2 ≤ v ∧ L[j].2 ≤ v ∧ (v ≤ k.2 ∨ v ≤ L[j].2)) : MergeInv L (j + 1) (K ++ [(k.1, v)]) := by
  have hkm : k ∈ K ++ [k] := by simp
  have h0 := m.good.1 k hkm
  have h1 := hf _ (List.getElem_mem hj)
  have h2 := m.low k hkm j hj (Nat.le_refl _)
  obtain ⟨p1, p2, p3⟩ := List.pairwise_append.1 m.good.2
  refine ⟨by have := m.len; rw [List.length_append, List.length_singleton] at *; omega, ⟨?_, ?_⟩, ?_, ?_⟩
  · intro b hb
    rcases List.mem_append.1 hb with hb | hb
    · exact m.good.1 b (List.mem_append_left _ hb)
    · obtain rfl := List.mem_singleton.1 hb
      simp only
      omega
  · rw [List.pairwise_append]
    refine ⟨p1, List.pairwise_singleton _ _, fun a ha b hb => ?_⟩
    obtain rfl := List.mem_singleton.1 hb
    exact p3 a ha k (by simp)
  · intro y
    have := m.rows y
    rw [take_one hj, ← this, inB_append, inB_append, inB_cons, inB_cons, inB_nil, Bool.or_false, Bool.or_false, Bool.or_assoc]
    congr 1
    rw [Bool.eq_iff_iff, Bool.or_eq_true, decide_eq_true_eq, decide_eq_true_eq, decide_eq_true_eq]
    simp only
    omega
  · intro b hb i hi hji
    rcases List.mem_append.1 hb with hb | hb
    · exact m.low b (List.mem_append_left _ hb) i hi (by omega)
    · obtain rfl := List.mem_singleton.1 hb
      exact m.low k hkm i hi (by omega)
/-- behind the last of good bands all lies behind each -/
theorem GoodL.last {K : Bands} {k : Int × Int} (h : GoodL (K ++ [k])) {x : Int} (hx : k.2 < x) : ∀ b ∈ K ++ [k], b.2 < x := by
  intro b hb
  obtain ⟨_, _, p3⟩ := List.pairwise_append.1 h.2
  rcases List.mem_append.1 hb with hb | hb
  · have h1 := p3 b hb k (by simp)
    have h2 := h.1 k (by simp)
    omega
  · obtain rfl := List.mem_singleton.1 hb
    exact hx

/-! ### two good lists, side by side -/
def meetB : Bands → Bands → Bands
  | [], _ => []
  | _ :: _, [] => []
  | a :: A, b :: B => (if (clB a b.1 b.2).1 < (clB a b.1 b.2).2 then [clB a b.1 b.2] else []) ++ (if a.2 < b.2 then meetB A (b :: B) else meetB (a :: A) B)
  termination_by A B => A.length + B.length
theorem meetB_nil (B : Bands) : meetB [] B = [] := by unfold meetB; rfl
theorem meetB_nil2 (A : Bands) : meetB A [] = [] := by cases A <;> (unfold meetB; rfl)
theorem meetB_cons (a b : Int × Int) (A B : Bands) : meetB (a :: A) (b :: B) = (if (clB a b.1 b.2).1 < (clB a b.1 b.2).2 then [clB a b.1 b.2] else []) ++ (if a.2 < b.2 then meetB A (b :: B) else meetB (a :: A) B) := by
  conv => lhs; unfold meetB
theorem one_inB (m : Int × Int) (h : -1073741824 ≤ m.1 ∧ m.2 ≤ 1073741824) (y : Int) : inB (if m.1 < m.2 then [m] else []) y = decide (m.1 ≤ y ∧ y < m.2) := by
  split
  · rw [inB_cons, inB_nil, Bool.or_false, decide_eq_decide]; omega
  · rw [inB_nil]; symm; exact decide_eq_false (by omega)
theorem good_put {m : Int × Int} {R : Bands} (hR : GoodL R) (h : m.1 < m.2 → -1073741824 ≤ m.1 ∧ m.2 ≤ 1073741824 ∧ ∀ y, inB R y = true → m.2 < y) : GoodL ((if m.1 < m.2 then [m] else []) ++ R) := by
  split
  · rename_i hm
    obtain ⟨h1, h2, h3⟩ := h hm
    refine ⟨fun b hb => ?_, List.pairwise_cons.2 ⟨fun c hc => ?_, hR.2⟩⟩
    · rcases List.mem_cons.1 hb with rfl | hb
      · omega
      · exact hR.1 b hb
    · exact h3 c.1 (hR.ahead c hc).1
  · exact hR
theorem meetB_both : ∀ (n : Nat) (A B : Bands), A.length + B.length ≤ n → GoodL A → GoodL B → GoodL (meetB A B) ∧ ∀ y, inB (meetB A B) y = (inB A y && inB B y)
  | _, [], B, _, _, _ => by rw [meetB_nil]; exact ⟨GoodL.nil, fun y => by rw [inB_nil, Bool.false_and]⟩
  | _, a :: A, [], _, _, _ => by rw [meetB_nil2]; exact ⟨GoodL.nil, fun y => by rw [inB_nil, Bool.and_false]⟩
  | 0, a :: A, b :: B, hn, _, _ => by simp at hn
  | n + 1, a :: A, b :: B, hn, hA, hB => by
    have ha := hA.1 a List.mem_cons_self
    have hb := hB.1 b List.mem_cons_self
    have hm : ∀ y, ((clB a b.1 b.2).1 ≤ y ∧ y < (clB a b.1 b.2).2) ↔ (a.1 ≤ y ∧ y < a.2 ∧ b.1 ≤ y ∧ y < b.2) := fun y => clZ_rows
    have i1 : b.1 ≤ (clB a b.1 b.2).1 ∧ (clB a b.1 b.2).1 ≤ b.2 := clZ_in (by omega)
    have i2 : b.1 ≤ (clB a b.1 b.2).2 ∧ (clB a b.1 b.2).2 ≤ b.2 := clZ_in (by omega)
    have hme : -1073741824 ≤ (clB a b.1 b.2).1 ∧ (clB a b.1 b.2).2 ≤ 1073741824 := by omega
    generalize hmm : clB a b.1 b.2 = m at *
    rw [meetB_cons, hmm]
    simp only [List.length_cons] at hn
    by_cases hlt : a.2 < b.2
    · rw [if_pos hlt]
      obtain ⟨g, r⟩ := meetB_both n A (b :: B) (by simp only [List.length_cons]; omega) hA.tail hB
      refine ⟨good_put g fun hf => ⟨hme.1, hme.2, fun y hy => ?_⟩, fun y => ?_⟩
      · rw [r, Bool.and_eq_true] at hy
        have h1 := hA.behind hy.1
        have h2 := (hm (m.2 - 1)).1 (by omega)
        omega
      · rw [inB_append, one_inB _ hme, r, inB_cons a A]
        cases hAy : inB A y with
        | true =>
          have h1 := hA.behind hAy
          have e : decide (m.1 ≤ y ∧ y < m.2) = false := decide_eq_false (fun h => by have := (hm y).1 h; omega)
          rw [e, Bool.false_or, Bool.or_true]
        | false =>
          rw [Bool.false_and, Bool.or_false, Bool.or_false, inB_cons]
          cases hBy : inB B y with
          | true =>
            have h1 := hB.behind hBy
            have e : decide (m.1 ≤ y ∧ y < m.2) = false := decide_eq_false (fun h => by have := (hm y).1 h; omega)
            have e2 : decide (a.1 ≤ y ∧ y < a.2 ∧ -1073741824 ≤ y ∧ y < 1073741824) = false := decide_eq_false (by omega)
            rw [e, e2, Bool.false_and]
          | false =>
            rw [Bool.or_false, ← Bool.decide_and, decide_eq_decide, hm]
            omega
    · rw [if_neg hlt]
      obtain ⟨g, r⟩ := meetB_both n (a :: A) B (by simp only [List.length_cons]; omega) hA hB.tail
      refine ⟨good_put g fun hf => ⟨hme.1, hme.2, fun y hy => ?_⟩, fun y => ?_⟩
      · rw [r, Bool.and_eq_true] at hy
        have h1 := hB.behind hy.2
        omega
      · rw [inB_append, one_inB _ hme, r, inB_cons b B]
        cases hBy : inB B y with
        | true =>
          have h1 := hB.behind hBy
          have e : decide (m.1 ≤ y ∧ y < m.2) = false := decide_eq_false (fun h => by have := (hm y).1 h; omega)
          rw [e, Bool.false_or, Bool.or_true]
        | false =>
          rw [Bool.and_false, Bool.or_false, Bool.or_false, inB_cons]
          cases hAy : inB A y with
          | true =>
            have h1 := hA.behind hAy
            have e : decide (m.1 ≤ y ∧ y < m.2) = false := decide_eq_false (fun h => by have := (hm y).1 h; omega)
            have e2 : decide (b.1 ≤ y ∧ y < b.2 ∧ -1073741824 ≤ y ∧ y < 1073741824) = false := decide_eq_false (by omega)
            rw [e, e2, Bool.and_false]
          | false =>
            rw [Bool.or_false, ← Bool.decide_and, decide_eq_decide, hm]
            omega
theorem meetB_len : ∀ (n : Nat) (A B : Bands), A.length + B.length ≤ n → (meetB A B).length ≤ A.length + B.length
  | _, [], B, _ => by rw [meetB_nil]; simp
  | _, a :: A, [], _ => by rw [meetB_nil2]; simp
  | 0, a :: A, b :: B, hn => by simp at hn
  | n + 1, a :: A, b :: B, hn => by
    simp only [List.length_cons] at hn
    rw [meetB_cons, List.length_append]
    have h1 : (if (clB a b.1 b.2).1 < (clB a b.1 b.2).2 then [clB a b.1 b.2] else []).length ≤ 1 := by split <;> simp
    have h2 := meetB_len n A (b :: B) (by simp only [List.length_cons]; omega)
    have h3 := meetB_len n (a :: A) B (by simp only [List.length_cons]; omega)
    have h4 : (if a.2 < b.2 then meetB A (b :: B) else meetB (a :: A) B).length ≤ A.length + B.length + 1 := by
      simp only [List.length_cons] at h2 h3
      split <;> omega
    simp only [List.length_cons]
    omega

/-! ### gaps -/
def gapsB (f : Int) : Bands → Bands
  | [] => [(f, 1073741824)]
  | b :: T => (f, b.1) :: gapsB b.2 T
theorem gapsB_len (f : Int) : ∀ T : Bands, (gapsB f T).length = T.length + 1
  | [] => rfl
  | b :: T => by unfold gapsB; rw [List.length_cons, gapsB_len, List.length_cons]
theorem gapsB_rows : ∀ (T : Bands) (f : Int), GoodL T → -1073741824 ≤ f ∧ f ≤ 1073741824 → (∀ b ∈ T, f ≤ b.1) → ∀ y, inB (gapsB f T) y = (decide (f ≤ y ∧ y < 1073741824) && !inB T y)
  | [], f, _, hf, _, y => by
    rw [gapsB, inB_cons, inB_nil, Bool.or_false, Bool.not_false, Bool.and_true, decide_eq_decide]
    simp only
    omega
  | b :: T, f, hT, hf, hl, y => by
    have hb := hT.1 b List.mem_cons_self
    have h1 := hl b List.mem_cons_self
    rw [gapsB, inB_cons, gapsB_rows T b.2 hT.tail (by omega) (fun c hc => by have := (List.pairwise_cons.1 hT.2).1 c hc; omega), inB_cons]
    simp only
    cases hTy : inB T y with
    | true =>
      have := hT.behind hTy
      have e : decide (f ≤ y ∧ y < b.1 ∧ -1073741824 ≤ y ∧ y < 1073741824) = false := decide_eq_false (by omega)
      rw [e, Bool.or_true, Bool.not_true, Bool.and_false, Bool.and_false, Bool.or_false]
    | false =>
      rw [Bool.not_false, Bool.and_true, Bool.or_false, Bool.eq_iff_iff]
      simp only [Bool.or_eq_true, Bool.and_eq_true, Bool.not_eq_true', decide_eq_true_eq, decide_eq_false_iff_not]
      omega
theorem gapsB_in : ∀ (T : Bands) (f : Int), GoodL T → -1073741824 ≤ f ∧ f ≤ 1073741824 → ∀ b ∈ gapsB f T, -1073741824 ≤ b.1 ∧ b.1 ≤ 1073741824 ∧ -1073741824 ≤ b.2 ∧ b.2 ≤ 1073741824
  | [], f, _, hf, c, hc => by
    obtain rfl := List.mem_singleton.1 hc
    simp only
    omega
  | b :: T, f, hT, hf, c, hc => by
    have hb := hT.1 b List.mem_cons_self
    rcases List.mem_cons.1 hc with rfl | hc
    · simp only
      omega
    · exact gapsB_in T b.2 hT.tail (by omega) c hc
theorem gaps_not {T l : Bands} (hT : GoodL T) (hr : ∀ y, inB T y = inB l y) (a : Bands) (y : Int) : (inB a y && inB (gapsB (-1073741824) T) y) = (inB a y && !inB l y) := by
  rw [gapsB_rows T _ hT (by omega) (fun b hb => (hT.1 b hb).1), hr]
  cases hay : inB a y with
  | false => rw [Bool.false_and, Bool.false_and]
  | true =>
    obtain ⟨b, hb, h1, h2, h3, h4⟩ := inB_iff.1 hay
    rw [decide_eq_true (by omega), Bool.true_and]

/-! ### how many rows -/
def sumB (T : Bands) : Int := (T.map fun b => b.2 - b.1).sum
theorem sumB_take {T : Bands} {j : Nat} (h : j < T.length) : sumB (T.take (j + 1)) = sumB (T.take j) + (T[j].2 - T[j].1) := by
  unfold sumB
  rw [List.take_succ_eq_append_getElem h, List.map_append, List.sum_append]
  simp
theorem sumB_in {T : Bands} (h : GoodL T) : ∀ j, j ≤ T.length → 0 ≤ sumB (T.take j) ∧ sumB (T.take j) ≤ 2147483648 * (j : Int)
  | 0, _ => by simp [sumB]
  | j + 1, hj => by
    have ih := sumB_in h j (by omega)
    have hb := h.1 _ (List.getElem_mem (show j < T.length by omega))
    rw [sumB_take (by omega)]
    omega

/-! ### whether bands are good, one by one -/
theorem good_one {l : Bands} {j : Nat} (hj : j < l.length) (hg : GoodL (l.take j)) (h1 : -1073741824 ≤ l[j].1 ∧ l[j].1 < l[j].2 ∧ l[j].2 ≤ 1073741824) (h2 : ∀ i (h : i + 1 = j), (l[i]'(by omega)).2 < l[j].1) : GoodL (l.take (j + 1)) := by
  rw [List.take_succ_eq_append_getElem hj]
  refine ⟨fun b hb => ?_, ?_⟩
  · rcases List.mem_append.1 hb with hb | hb
    · exact hg.1 b hb
    · obtain rfl := List.mem_singleton.1 hb
      exact h1
  · rw [List.pairwise_append]
    refine ⟨hg.2, List.pairwise_singleton _ _, fun a ha b hb => ?_⟩
    obtain rfl := List.mem_singleton.1 hb
    cases j with
    | zero => simp at ha
    | succ i =>
      have h3 := h2 i rfl
      have h4 : l.take (i + 1) = l.take i ++ [l[i]] := List.take_succ_eq_append_getElem (by omega)
      rw [h4] at hg ha
      exact hg.last h3 a ha
theorem good_sub {l : Bands} {j : Nat} (hj : j < l.length) (h : GoodL l) : (-1073741824 ≤ l[j].1 ∧ l[j].1 < l[j].2 ∧ l[j].2 ≤ 1073741824) ∧ ∀ i (h : i + 1 = j), (l[i]'(by omega)).2 < l[j].1 := by
  refine ⟨h.1 _ (List.getElem_mem hj), fun i hi => ?_⟩
  exact List.pairwise_iff_getElem.1 h.2 i j (by omega) hj (by omega)
end Go.Proofs.Ytgfmfkjebnllnaa
