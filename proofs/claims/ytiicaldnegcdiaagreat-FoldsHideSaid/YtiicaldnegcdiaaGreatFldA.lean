/- folds: what they are, without a program: which lines are hidden, which are left, which are heads; folds that are good, one more, those that are left. No condition. -/
import Derived.Test.YtiicaldnegcdiaaGreatTxtA
import Derived.Test.YtiicaldnegcdiaaGreatBandsA
namespace Go.Proofs.YtiicaldnegcdiaaGreat
set_option linter.unusedSimpArgs false
set_option linter.unusedVariables false
set_option linter.unusedSectionVars false
open Go.RowKit

/-! ### where a line begins, and the line of a place -/
theorem below_start {F : List Int} {n x : Int} (h : FeedsOk F n) {k : Nat} (hk : k ≤ F.length) (h0 : 0 ≤ x) : k ≤ below x F ↔ lnS F k ≤ x := by
  cases k with
  | zero => simp [lnS, h0]
  | succ j =>
    have e : lnS F (j + 1) = F.getD j 0 + 1 := by unfold lnS; rw [if_neg (by omega)]; rfl
    rw [e]
    constructor
    · intro hj
      have := (below_lt F x j (by omega)).2
      omega
    · intro hj
      refine Nat.not_lt.1 fun hlt => ?_
      have h1 := below_at F x (by omega)
      rcases Nat.lt_or_ge (below x F) j with h2 | h2
      · have := h.up _ _ h2 (by omega)
        omega
      · have h3 : below x F = j := by omega
        rw [h3] at h1
        omega
/-- that s hides the line k of a text of n bytes whose line feeds stand at F -/
def hid1 (F : List Int) (n k : Int) (s : Int × Int) : Bool := decide (0 ≤ s.1 ∧ s.1 ≤ n ∧ 0 ≤ s.2 ∧ s.2 ≤ n ∧ ((below s.1 F : Nat) : Int) < k ∧ k ≤ ((below s.2 F : Nat) : Int))
def hidL (F : List Int) (n k : Int) (l : List (Int × Int)) : Bool := l.any (hid1 F n k)
/-- the same by where the line begins -/
def hidC (a e : Int) (s : Int × Int) : Bool := decide (0 ≤ s.1 ∧ s.1 < a ∧ a ≤ s.2 ∧ s.2 ≤ e)
theorem hidC_eq {F : List Int} {n : Int} (h : FeedsOk F n) {k : Nat} (hk : k ≤ F.length) (s : Int × Int) : hidC (lnS F k) n s = hid1 F n k s := by
  have hs := h.s0 hk
  unfold hidC hid1
  rw [decide_eq_decide]
  constructor
  · rintro ⟨h1, h2, h3, h4⟩
    have q1 := below_start (x := s.1) h hk h1
    have q2 := (below_start (x := s.2) h hk (by omega)).2 h3
    refine ⟨h1, by omega, by omega, h4, ?_, by omega⟩
    have : ¬ k ≤ below s.1 F := fun q => by have := q1.1 q; omega
    omega
  · rintro ⟨h1, h2, h3, h4, h5, h6⟩
    have q1 := below_start (x := s.1) h hk h1
    have q2 := (below_start (x := s.2) h hk h3).1 (by omega)
    have : ¬ lnS F k ≤ s.1 := fun q => by have := q1.2 q; omega
    omega
theorem hidL_C {F : List Int} {n : Int} (h : FeedsOk F n) {k : Nat} (hk : k ≤ F.length) (l : List (Int × Int)) : l.any (hidC (lnS F k) n) = hidL F n k l := by
  unfold hidL
  congr 1
  funext s
  exact hidC_eq h hk s
theorem hidL_in {F : List Int} {n k : Int} {l : List (Int × Int)} (h : hidL F n k l = true) : 1 ≤ k ∧ k ≤ F.length := by
  obtain ⟨s, _, hs⟩ := List.any_eq_true.1 h
  unfold hid1 at hs
  have := of_decide_eq_true hs
  have := below_le F s.2
  omega
theorem hidL_none {F : List Int} {n k : Int} {l : List (Int × Int)} (h : ¬ (0 ≤ k ∧ k ≤ F.length)) : hidL F n k l = false := by
  cases hc : hidL F n k l
  · rfl
  · have := hidL_in hc; omega
/-- the lines that s hides, as a band -/
def bandS (F : List Int) (n : Int) (s : Int × Int) : Int × Int := if 0 ≤ s.1 ∧ s.1 ≤ n ∧ 0 ≤ s.2 ∧ s.2 ≤ n then (((below s.1 F : Nat) : Int) + 1, ((below s.2 F : Nat) : Int) + 1) else (0, 0)
theorem inB_bandS {F : List Int} {n : Int} (hF : F.length ≤ 60000) (y : Int) : ∀ l : List (Int × Int), inB (l.map (bandS F n)) y = hidL F n y l
  | [] => rfl
  | s :: l => by
    rw [List.map_cons, inB_cons, inB_bandS hF y l]
    show _ = (hid1 F n y s || hidL F n y l)
    congr 1
    have h1 := below_le F s.1
    have h2 := below_le F s.2
    unfold hid1 bandS
    rw [decide_eq_decide]
    split
    · simp only
      omega
    · simp only
      omega
theorem bandS_nums {F : List Int} {n : Int} (hF : F.length ≤ 60000) (l : List (Int × Int)) : Nums (l.map (bandS F n)) := by
  intro b hb
  obtain ⟨s, _, rfl⟩ := List.mem_map.1 hb
  have h1 := below_le F s.1
  have h2 := below_le F s.2
  unfold bandS
  split
  · simp only; omega
  · simp only; omega

/-! ### rising numbers -/
theorem rise_unique : ∀ {A B : List Int}, A.Pairwise (· < ·) → B.Pairwise (· < ·) → (∀ x, x ∈ A ↔ x ∈ B) → A = B
  | [], [], _, _, _ => rfl
  | [], b :: B, _, _, h => by have := (h b).2 (List.mem_cons_self); simp at this
  | a :: A, [], _, _, h => by have := (h a).1 (List.mem_cons_self); simp at this
  | a :: A, b :: B, hA, hB, h => by
    obtain ⟨a1, a2⟩ := List.pairwise_cons.1 hA
    obtain ⟨b1, b2⟩ := List.pairwise_cons.1 hB
    have e : a = b := by
      have h1 := (h a).1 (List.mem_cons_self)
      have h2 := (h b).2 (List.mem_cons_self)
      rcases List.mem_cons.1 h1 with h1 | h1
      · exact h1
      · rcases List.mem_cons.1 h2 with h2 | h2
        · exact h2.symm
        · have := a1 _ h2; have := b1 _ h1; omega
    subst e
    congr 1
    refine rise_unique a2 b2 fun x => ?_
    constructor
    · intro hx
      rcases List.mem_cons.1 ((h x).1 (List.mem_cons_of_mem _ hx)) with rfl | hx2
      · have := a1 _ hx; omega
      · exact hx2
    · intro hx
      rcases List.mem_cons.1 ((h x).2 (List.mem_cons_of_mem _ hx)) with rfl | hx2
      · have := b1 _ hx; omega
      · exact hx2
/-- m numbers from a on -/
def upZ (a : Int) : Nat → List Int
  | 0 => []
  | m + 1 => upZ a m ++ [a + m]
theorem upZ_len (a : Int) : ∀ m, (upZ a m).length = m
  | 0 => rfl
  | m + 1 => by rw [upZ, List.length_append, upZ_len a m]; rfl
theorem upZ_mem (a x : Int) : ∀ m, x ∈ upZ a m ↔ a ≤ x ∧ x < a + m
  | 0 => by simp [upZ] <;> omega
  | m + 1 => by
    rw [upZ, List.mem_append, upZ_mem a x m, List.mem_singleton]
    omega
theorem upZ_rise (a : Int) : ∀ m, (upZ a m).Pairwise (· < ·)
  | 0 => List.Pairwise.nil
  | m + 1 => by
    rw [upZ, List.pairwise_append]
    refine ⟨upZ_rise a m, List.pairwise_singleton _ _, fun x hx y hy => ?_⟩
    have := (upZ_mem a x m).1 hx
    have := List.mem_singleton.1 hy
    omega
/-- the rows of bands -/
def rowsB : List (Int × Int) → List Int
  | [] => []
  | b :: T => upZ b.1 (b.2 - b.1).toNat ++ rowsB T
theorem rowsB_append : ∀ A B : List (Int × Int), rowsB (A ++ B) = rowsB A ++ rowsB B
  | [], B => rfl
  | a :: A, B => by rw [List.cons_append, rowsB, rowsB, rowsB_append A B, List.append_assoc]
theorem rowsB_take {T : List (Int × Int)} {j : Nat} (h : j < T.length) : rowsB (T.take (j + 1)) = rowsB (T.take j) ++ upZ T[j].1 (T[j].2 - T[j].1).toNat := by
  rw [List.take_succ_eq_append_getElem h, rowsB_append]
  congr 1
  simp [rowsB]
theorem rowsB_mem : ∀ {T : List (Int × Int)}, GoodL T → ∀ x, x ∈ rowsB T ↔ inB T x = true
  | [], _, x => by simp [rowsB, inB_nil]
  | b :: T, h, x => by
    have h1 := h.1 b (List.mem_cons_self)
    rw [rowsB, List.mem_append, upZ_mem, rowsB_mem h.tail x, inB_cons, Bool.or_eq_true, decide_eq_true_eq]
    refine or_congr ?_ Iff.rfl
    omega
theorem rowsB_rise : ∀ {T : List (Int × Int)}, GoodL T → (rowsB T).Pairwise (· < ·)
  | [], _ => List.Pairwise.nil
  | b :: T, h => by
    have h1 := h.1 b (List.mem_cons_self)
    rw [rowsB, List.pairwise_append]
    refine ⟨upZ_rise _ _, rowsB_rise h.tail, fun x hx y hy => ?_⟩
    have := (upZ_mem _ x _).1 hx
    have := h.behind ((rowsB_mem h.tail y).1 hy)
    omega
theorem rowsB_len : ∀ {T : List (Int × Int)}, GoodL T → ((rowsB T).length : Int) = heightL T
  | [], _ => rfl
  | b :: T, h => by
    have h1 := h.1 b (List.mem_cons_self)
    have h2 := rowsB_len h.tail
    rw [rowsB, List.length_append, upZ_len]
    have h3 : heightL (b :: T) = (b.2 - b.1) + heightL T := by unfold heightL; rw [List.map_cons, List.sum_cons]
    rw [h3]
    omega
/-- the numbers below m of which p holds -/
def visZ (p : Int → Bool) : Nat → List Int
  | 0 => []
  | m + 1 => visZ p m ++ (if p (m : Int) = true then [(m : Int)] else [])
theorem visZ_mem (p : Int → Bool) (x : Int) : ∀ m, x ∈ visZ p m ↔ (0 ≤ x ∧ x < m) ∧ p x = true
  | 0 => by simp [visZ] <;> omega
  | m + 1 => by
    rw [visZ, List.mem_append, visZ_mem p x m]
    by_cases hx : x = m
    · subst hx
      split
      · rename_i hp; simp [hp]; omega
      · rename_i hp; simp [hp]
    · split
      · rw [List.mem_singleton]
        constructor
        · rintro (h | h)
          · exact ⟨by omega, h.2⟩
          · exact absurd h hx
        · intro h
          exact .inl ⟨by omega, h.2⟩
      · constructor
        · rintro (h | h)
          · exact ⟨by omega, h.2⟩
          · simp at h
        · intro h
          exact .inl ⟨by omega, h.2⟩
theorem visZ_rise (p : Int → Bool) : ∀ m, (visZ p m).Pairwise (· < ·)
  | 0 => List.Pairwise.nil
  | m + 1 => by
    rw [visZ, List.pairwise_append]
    refine ⟨visZ_rise p m, by split <;> simp, fun x hx y hy => ?_⟩
    have h1 := ((visZ_mem p x m).1 hx).1
    split at hy
    · have := List.mem_singleton.1 hy; omega
    · simp at hy
theorem visZ_le (p : Int → Bool) : ∀ m, (visZ p m).length ≤ m
  | 0 => Nat.le_refl _
  | m + 1 => by
    have := visZ_le p m
    rw [visZ, List.length_append]
    split
    · simp only [List.length_singleton]; omega
    · simp only [List.length_nil]; omega
theorem visZ_both (p : Int → Bool) : ∀ m, (visZ p m).length + (visZ (fun k => !p k) m).length = m
  | 0 => rfl
  | m + 1 => by
    have := visZ_both p m
    rw [visZ, visZ, List.length_append, List.length_append]
    cases p (m : Int)
    · simp; omega
    · simp; omega
/-- the heads: ahead of each band of hidden lines -/
theorem heads_eq {T : List (Int × Int)} {p : Int → Bool} {m : Nat} (hT : GoodL T) (hy : ∀ y, inB T y = p y) (hin : ∀ y, p y = true → 1 ≤ y ∧ y < m) : T.map (fun b => b.1 - 1) = visZ (fun k => !p k && p (k + 1)) m := by
  refine rise_unique ?_ (visZ_rise _ _) fun x => ?_
  · rw [List.pairwise_map]
    refine hT.2.imp_of_mem fun {a b} ha hb h => ?_
    have := hT.1 a ha
    omega
  · rw [visZ_mem, List.mem_map]
    constructor
    · rintro ⟨b, hb, rfl⟩
      obtain ⟨h1, h2⟩ := hT.ahead b hb
      rw [hy] at h1 h2
      have := hin _ h1
      refine ⟨by omega, ?_⟩
      rw [h2, show b.1 - 1 + 1 = b.1 by omega, h1]
      rfl
    · rintro ⟨h1, h2⟩
      simp only [Bool.and_eq_true, Bool.not_eq_true'] at h2
      rw [← hy, ← hy] at h2
      obtain ⟨b, hb, q⟩ := inB_iff.1 h2.2
      refine ⟨b, hb, ?_⟩
      by_cases he : b.1 ≤ x
      · exfalso
        have : inB T x = true := inB_iff.2 ⟨b, hb, by have := hT.1 b hb; omega⟩
        rw [h2.1] at this
        cases this
      · omega
theorem vis_eq {V : List (Int × Int)} {p : Int → Bool} {m : Nat} (hV : GoodL V) (hy : ∀ y, inB V y = (decide (0 ≤ y ∧ y < (m : Int)) && p y)) : rowsB V = visZ p m := by
  refine rise_unique (rowsB_rise hV) (visZ_rise _ _) fun x => ?_
  rw [rowsB_mem hV, visZ_mem, hy, Bool.and_eq_true, decide_eq_true_eq]
theorem height_eq {T : List (Int × Int)} {p : Int → Bool} {m : Nat} (hT : GoodL T) (hy : ∀ y, inB T y = p y) (hin : ∀ y, p y = true → 1 ≤ y ∧ y < m) : heightL T = (m : Int) - (visZ (fun k => !p k) m).length := by
  have e : rowsB T = visZ p m := vis_eq hT fun y => by
    rw [hy]
    cases hp : p y
    · simp
    · have := hin y hp
      rw [decide_eq_true (by omega)]
      rfl
  have h1 := rowsB_len hT
  have h2 := visZ_both p m
  rw [e] at h1
  omega

/-! ### folds that are good -/
def fairZ (n : Int) (s : Int × Int) : Bool := decide (0 ≤ s.1 ∧ s.1 < s.2 ∧ s.2 ≤ n)
def goodZ (n : Int) : Int → List (Int × Int) → Bool
  | _, [] => true
  | e, s :: l => decide (e ≤ s.1 ∧ s.1 < s.2 ∧ s.2 ≤ n) && goodZ n s.2 l
theorem goodZ_one (n : Int) (s : Int × Int) : goodZ n 0 [s] = fairZ n s := by unfold goodZ goodZ fairZ; rw [Bool.and_true]
theorem goodZ_append (n : Int) : ∀ (A B : List (Int × Int)) (e : Int), goodZ n e (A ++ B) = (goodZ n e A && goodZ n ((A.getLast?.map (·.2)).getD e) B)
  | [], B, e => by simp [goodZ]
  | a :: A, B, e => by
    rw [List.cons_append, goodZ, goodZ, goodZ_append n A B a.2, Bool.and_assoc]
    cases A with
    | nil => rfl
    | cons b A => rw [List.getLast?_cons_cons]; cases hx : (b :: A).getLast? with
      | none => simp at hx
      | some y => rfl
/-- where the next one may begin -/
def endZ (e : Int) (l : List (Int × Int)) : Int := (l.getLast?.map (·.2)).getD e
theorem endZ_nil (e : Int) : endZ e [] = e := rfl
theorem endZ_snoc (e : Int) (l : List (Int × Int)) (s : Int × Int) : endZ e (l ++ [s]) = s.2 := by unfold endZ; rw [List.getLast?_concat]; rfl
theorem goodZ_snoc (n e : Int) (l : List (Int × Int)) (s : Int × Int) : goodZ n e (l ++ [s]) = (goodZ n e l && decide (endZ e l ≤ s.1 ∧ s.1 < s.2 ∧ s.2 ≤ n)) := by
  rw [goodZ_append]
  simp only [goodZ, Bool.and_true]
  rfl
theorem goodZ_take {n e : Int} {l : List (Int × Int)} {j : Nat} (h : j < l.length) : goodZ n e (l.take (j + 1)) = (goodZ n e (l.take j) && decide (endZ e (l.take j) ≤ l[j].1 ∧ l[j].1 < l[j].2 ∧ l[j].2 ≤ n)) := by
  rw [List.take_succ_eq_append_getElem h, goodZ_snoc]
theorem endZ_take {e : Int} {l : List (Int × Int)} {j : Nat} (h : j < l.length) : endZ e (l.take (j + 1)) = l[j].2 := by
  rw [List.take_succ_eq_append_getElem h, endZ_snoc]
theorem goodZ_false {n e : Int} {l : List (Int × Int)} {j : Nat} (h : j ≤ l.length) (hf : goodZ n e (l.take j) = false) : goodZ n e l = false := by
  have := goodZ_append n (l.take j) (l.drop j) e
  rw [List.take_append_drop, hf] at this
  simpa using this
theorem goodZ_true {n e : Int} {l : List (Int × Int)} (j : Nat) (hf : goodZ n e l = true) : goodZ n e (l.take j) = true := by
  have := goodZ_append n (l.take j) (l.drop j) e
  rw [List.take_append_drop, hf] at this
  have := this.symm
  simp only [Bool.and_eq_true] at this
  exact this.1
theorem goodZ_mem {n : Int} : ∀ {l : List (Int × Int)} {e : Int}, 0 ≤ e → goodZ n e l = true → ∀ s ∈ l, e ≤ s.1 ∧ s.1 < s.2 ∧ s.2 ≤ n
  | [], _, _, _, s, hs => by simp at hs
  | a :: l, e, he, h, s, hs => by
    rw [goodZ, Bool.and_eq_true, decide_eq_true_eq] at h
    rcases List.mem_cons.1 hs with rfl | hs
    · exact h.1
    · have := goodZ_mem (by omega) h.2 s hs
      omega

/-! ### one more -/
theorem goodZ_pair {n : Int} : ∀ {l : List (Int × Int)} {e : Int}, 0 ≤ e → goodZ n e l = true → l.Pairwise fun a b => a.2 ≤ b.1
  | [], _, _, _ => List.Pairwise.nil
  | a :: l, e, he, h => by
    rw [goodZ, Bool.and_eq_true, decide_eq_true_eq] at h
    exact List.pairwise_cons.2 ⟨fun b hb => (goodZ_mem (by omega) h.2 b hb).1, goodZ_pair (by omega) h.2⟩
/-- how many of l end where s begins, or ahead -/
def aheadZ (s : Int × Int) (l : List (Int × Int)) : Nat := (l.takeWhile fun r => decide (r.2 ≤ s.1)).length
def clashZ (s : Int × Int) (l : List (Int × Int)) : Bool := l.any fun r => decide (r.1 < s.2 ∧ s.1 < r.2)
theorem aheadZ_le (s : Int × Int) (l : List (Int × Int)) : aheadZ s l ≤ l.length := (List.takeWhile_prefix _).length_le
theorem aheadZ_lt (s : Int × Int) : ∀ (l : List (Int × Int)) (i : Nat) (h : i < l.length), i < aheadZ s l → l[i].2 ≤ s.1
  | [], i, h, _ => absurd h (by simp)
  | r :: l, i, h, ha => by
    unfold aheadZ at ha
    by_cases hr : r.2 ≤ s.1
    · rw [List.takeWhile_cons_of_pos (by simpa using hr)] at ha
      cases i with
      | zero => exact hr
      | succ i => exact aheadZ_lt s l i (by simpa using h) (by unfold aheadZ; simpa using ha)
    · rw [List.takeWhile_cons_of_neg (by simpa using hr)] at ha
      exact absurd ha (by simp)
theorem aheadZ_at (s : Int × Int) : ∀ (l : List (Int × Int)) (h : aheadZ s l < l.length), s.1 < l[aheadZ s l].2
  | [], h => absurd h (by simp)
  | r :: l, h => by
    by_cases hr : r.2 ≤ s.1
    · have e : aheadZ s (r :: l) = aheadZ s l + 1 := by unfold aheadZ; rw [List.takeWhile_cons_of_pos (by simpa using hr)]; rfl
      have := aheadZ_at s l (by rw [e] at h; simpa using h)
      simp only [e, List.getElem_cons_succ]
      exact this
    · have e : aheadZ s (r :: l) = 0 := by unfold aheadZ; rw [List.takeWhile_cons_of_neg (by simpa using hr)]; rfl
      simp only [e, List.getElem_cons_zero]
      omega
theorem clash_at {n : Int} {s : Int × Int} {l : List (Int × Int)} (hg : goodZ n 0 l = true) : clashZ s l = true ↔ ∃ h : aheadZ s l < l.length, l[aheadZ s l].1 < s.2 := by
  unfold clashZ
  rw [List.any_eq_true]
  constructor
  · rintro ⟨r, hr, hq⟩
    have hq := of_decide_eq_true hq
    obtain ⟨i, hi, rfl⟩ := List.getElem_of_mem hr
    have h1 : aheadZ s l ≤ i := Nat.not_lt.1 fun h => by have := aheadZ_lt s l i hi h; omega
    refine ⟨by omega, ?_⟩
    rcases Nat.lt_or_ge (aheadZ s l) i with h2 | h2
    · have h3 := List.pairwise_iff_getElem.1 (goodZ_pair (Int.le_refl 0) hg) _ _ (by omega) hi h2
      have h4 := goodZ_mem (Int.le_refl 0) hg l[aheadZ s l] (List.getElem_mem (by omega))
      omega
    · have h3 : aheadZ s l = i := by omega
      simp only [h3]
      exact hq.1
  · rintro ⟨h, hq⟩
    exact ⟨_, List.getElem_mem h, decide_eq_true ⟨hq, aheadZ_at s l h⟩⟩
theorem clash_take {s : Int × Int} {l : List (Int × Int)} {j : Nat} (h : j < l.length) : clashZ s (l.take (j + 1)) = (clashZ s (l.take j) || decide (l[j].1 < s.2 ∧ s.1 < l[j].2)) := by
  unfold clashZ
  rw [List.take_succ_eq_append_getElem h, List.any_append]
  simp
theorem clash_one {s : Int × Int} {l : List (Int × Int)} {j : Nat} (h : j < l.length) (hc : l[j].1 < s.2 ∧ s.1 < l[j].2) : clashZ s l = true := List.any_eq_true.2 ⟨_, List.getElem_mem h, decide_eq_true hc⟩
def putZ (s : Int × Int) (l : List (Int × Int)) : List (Int × Int) := l.take (aheadZ s l) ++ [s] ++ l.drop (aheadZ s l)
theorem putZ_len (s : Int × Int) (l : List (Int × Int)) : (putZ s l).length = l.length + 1 := by
  have := aheadZ_le s l
  unfold putZ
  simp only [List.length_append, List.length_take, List.length_drop, List.length_singleton]
  omega
theorem goodZ_from {n e f : Int} {l : List (Int × Int)} (h : goodZ n e l = true) (hf : ∀ h : 0 < l.length, f ≤ l[0].1) : goodZ n f l = true := by
  cases l with
  | nil => rfl
  | cons a l =>
    have := hf (by simp)
    rw [goodZ, Bool.and_eq_true, decide_eq_true_eq] at h ⊢
    exact ⟨⟨by simpa using this, h.1.2⟩, h.2⟩
theorem putZ_good {n : Int} {s : Int × Int} {l : List (Int × Int)} (hg : goodZ n 0 l = true) (hs : fairZ n s = true) (hc : clashZ s l = false) : goodZ n 0 (putZ s l) = true := by
  unfold fairZ at hs
  have hs := of_decide_eq_true hs
  have h1 := goodZ_append n (l.take (aheadZ s l)) (l.drop (aheadZ s l)) 0
  rw [List.take_append_drop, hg] at h1
  have h1 := h1.symm
  rw [Bool.and_eq_true] at h1
  unfold putZ
  rw [List.append_assoc, goodZ_append, h1.1, Bool.true_and]
  show goodZ n _ (s :: l.drop (aheadZ s l)) = true
  rw [goodZ, Bool.and_eq_true, decide_eq_true_eq]
  refine ⟨⟨?_, hs.2⟩, goodZ_from h1.2 fun h => ?_⟩
  · rcases Nat.eq_zero_or_pos (aheadZ s l) with h0 | h0
    · rw [h0]; simp; omega
    · obtain ⟨a, ha⟩ : ∃ a, aheadZ s l = a + 1 := ⟨aheadZ s l - 1, by omega⟩
      have hl := aheadZ_le s l
      rw [ha, List.take_succ_eq_append_getElem (by omega), List.getLast?_concat]
      exact aheadZ_lt s l a (by omega) (by omega)
  · rw [List.length_drop] at h
    have h2 : aheadZ s l < l.length := by omega
    have h3 : ¬ l[aheadZ s l].1 < s.2 := fun q => by
      rw [(clash_at hg).2 ⟨h2, q⟩] at hc
      cases hc
    simp only [List.getElem_drop, Nat.add_zero]
    omega
/-- what the document has put together behind i of them -/
def insZ (s : Int × Int) (l : List (Int × Int)) (i : Nat) : List (Int × Int) := if i ≤ aheadZ s l then l.take i else l.take (aheadZ s l) ++ [s] ++ (l.take i).drop (aheadZ s l)
theorem insZ_zero (s : Int × Int) (l : List (Int × Int)) : insZ s l 0 = [] := by unfold insZ; rw [if_pos (Nat.zero_le _), List.take_zero]
theorem insZ_ahead {s : Int × Int} {l : List (Int × Int)} {i : Nat} (h : i < l.length) (ha : i < aheadZ s l) : insZ s l (i + 1) = insZ s l i ++ [l[i]] := by
  unfold insZ
  rw [if_pos (by omega), if_pos (by omega), List.take_succ_eq_append_getElem h]
theorem insZ_at {s : Int × Int} {l : List (Int × Int)} {i : Nat} (h : i < l.length) (ha : i = aheadZ s l) : insZ s l (i + 1) = insZ s l i ++ [s] ++ [l[i]] := by
  unfold insZ
  rw [if_neg (by omega), if_pos (by omega), ← ha, List.take_succ_eq_append_getElem h, List.drop_append, List.length_take, Nat.min_eq_left (by omega), Nat.sub_self, List.drop_zero, List.drop_eq_nil_of_le (by rw [List.length_take]; omega), List.nil_append]
theorem insZ_behind {s : Int × Int} {l : List (Int × Int)} {i : Nat} (h : i < l.length) (ha : aheadZ s l < i) : insZ s l (i + 1) = insZ s l i ++ [l[i]] := by
  unfold insZ
  rw [if_neg (by omega), if_neg (by omega), List.take_succ_eq_append_getElem h, List.drop_append, List.length_take, Nat.min_eq_left (by omega), Nat.sub_eq_zero_of_le (by omega), List.drop_zero, List.append_assoc, List.append_assoc, List.append_assoc]
theorem insZ_end (s : Int × Int) (l : List (Int × Int)) : (if l.length ≤ aheadZ s l then insZ s l l.length ++ [s] else insZ s l l.length) = putZ s l := by
  have hl := aheadZ_le s l
  unfold insZ putZ
  split
  · rename_i h
    have e : aheadZ s l = l.length := by omega
    rw [e, List.drop_length, List.append_nil]
  · rename_i h
    rw [List.take_length]
theorem insZ_len (s : Int × Int) (l : List (Int × Int)) (i : Nat) : (insZ s l i).length ≤ l.length + 1 := by
  unfold insZ
  split
  · rw [List.length_take]; omega
  · simp only [List.length_append, List.length_take, List.length_drop, List.length_singleton]; omega
/-- what Add answers -/
def addC (s : Int × Int) (l : List (Int × Int)) (n : Int) : Int := if goodZ n 0 l = true ∧ fairZ n s = true then if clashZ s l = true then 4 else 0 else 1
def addL (s : Int × Int) (l : List (Int × Int)) (n : Int) : List (Int × Int) := if addC s l n = 0 then putZ s l else []
theorem addC_bad {s : Int × Int} {l : List (Int × Int)} {n : Int} (h : ¬ (goodZ n 0 l = true ∧ fairZ n s = true)) : addC s l n = 1 ∧ addL s l n = [] := by unfold addL addC; rw [if_neg h]; exact ⟨rfl, rfl⟩
theorem addC_clash {s : Int × Int} {l : List (Int × Int)} {n : Int} (h : goodZ n 0 l = true ∧ fairZ n s = true) (hc : clashZ s l = true) : addC s l n = 4 ∧ addL s l n = [] := by unfold addL addC; rw [if_pos h, if_pos hc]; exact ⟨rfl, rfl⟩
theorem addC_ok {s : Int × Int} {l : List (Int × Int)} {n : Int} (h : goodZ n 0 l = true ∧ fairZ n s = true) (hc : clashZ s l = false) : addC s l n = 0 ∧ addL s l n = putZ s l := by unfold addL addC; rw [if_pos h, if_neg (by rw [hc]; decide)]; exact ⟨rfl, rfl⟩
theorem addL_len (s : Int × Int) (l : List (Int × Int)) (n : Int) : (addL s l n).length ≤ l.length + 1 := by
  unfold addL
  split
  · rw [putZ_len]; exact Nat.le_refl _
  · exact Nat.zero_le _
theorem addL_good {s : Int × Int} {l : List (Int × Int)} {n : Int} (h : addC s l n = 0) : goodZ n 0 (addL s l n) = true := by
  unfold addC at h
  split at h
  · rename_i hh
    split at h
    · cases h
    · rename_i hc
      have hc : clashZ s l = false := by simpa using hc
      rw [(addC_ok hh hc).2]
      exact putZ_good hh.1 hh.2 hc
  · cases h
end Go.Proofs.YtiicaldnegcdiaaGreat
