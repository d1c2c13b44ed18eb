/- band: plain mathematics: rows that bands have, good bands, that good bands of the same rows are the same, and the good bands of rows that are told one by one. No condition. -/
namespace Go.Proofs.Ytgfmfkjebnllnaa
set_option linter.unusedSimpArgs false
set_option linter.unusedVariables false
set_option linter.unusedSectionVars false

abbrev Bands := List (Int × Int)
def inB (L : Bands) (y : Int) : Bool := L.any fun b => decide (b.1 ≤ y ∧ y < b.2 ∧ -1073741824 ≤ y ∧ y < 1073741824)
def GoodL (L : Bands) : Prop := (∀ b ∈ L, -1073741824 ≤ b.1 ∧ b.1 < b.2 ∧ b.2 ≤ 1073741824) ∧ L.Pairwise fun b c => b.2 < c.1
theorem inB_iff {L : Bands} {y : Int} : inB L y = true ↔ ∃ b ∈ L, b.1 ≤ y ∧ y < b.2 ∧ -1073741824 ≤ y ∧ y < 1073741824 := by
  unfold inB; rw [List.any_eq_true]; simp
theorem inB_nil (y : Int) : inB [] y = false := rfl
theorem inB_cons (b : Int × Int) (L : Bands) (y : Int) : inB (b :: L) y = (decide (b.1 ≤ y ∧ y < b.2 ∧ -1073741824 ≤ y ∧ y < 1073741824) || inB L y) := rfl
theorem inB_append (A B : Bands) (y : Int) : inB (A ++ B) y = (inB A y || inB B y) := by unfold inB; rw [List.any_append]
theorem inB_reverse (A : Bands) (y : Int) : inB A.reverse y = inB A y := by unfold inB; rw [List.any_reverse]
theorem GoodL.nil : GoodL [] := ⟨by simp, List.Pairwise.nil⟩
theorem GoodL.tail {b : Int × Int} {L : Bands} (h : GoodL (b :: L)) : GoodL L := ⟨fun c hc => h.1 c (List.mem_cons_of_mem _ hc), (List.pairwise_cons.1 h.2).2⟩
/-- a row of the rest lies behind the first band's end -/
theorem GoodL.behind {b : Int × Int} {L : Bands} (h : GoodL (b :: L)) {y : Int} (hy : inB L y = true) : b.2 < y := by
  obtain ⟨c, hc, h1, _⟩ := inB_iff.1 hy
  have := (List.pairwise_cons.1 h.2).1 c hc
  omega
theorem GoodL.first {b : Int × Int} {L : Bands} (h : GoodL (b :: L)) : inB (b :: L) b.1 = true := by
  have := h.1 b List.mem_cons_self
  rw [inB_cons]; simp; left; omega
theorem GoodL.lower {b : Int × Int} {L : Bands} (h : GoodL (b :: L)) {y : Int} (hy : inB (b :: L) y = true) : b.1 ≤ y := by
  have hb := h.1 b List.mem_cons_self
  rw [inB_cons] at hy
  rcases Bool.or_eq_true_iff.1 hy with h1 | h1
  · have := of_decide_eq_true h1; omega
  · have := h.behind h1; omega
/-- P4.3 -/
theorem good_unique : ∀ {A B : Bands}, GoodL A → GoodL B → (∀ y, inB A y = inB B y) → A = B
  | [], [], _, _, _ => rfl
  | [], b :: B, _, hB, h => by have := hB.first; rw [← h, inB_nil] at this; cases this
  | a :: A, [], hA, _, h => by have := hA.first; rw [h, inB_nil] at this; cases this
  | a :: A, b :: B, hA, hB, h => by
    have ha := hA.1 a List.mem_cons_self
    have hb := hB.1 b List.mem_cons_self
    have e1 : a.1 = b.1 := by
      have h1 := hB.lower (by rw [← h]; exact hA.first)
      have h2 := hA.lower (by rw [h]; exact hB.first)
      omega
    have ends : ∀ {a b : Int × Int} {A B : Bands}, GoodL (a :: A) → GoodL (b :: B) → a.1 = b.1 → (∀ y, inB (a :: A) y = inB (b :: B) y) → ¬ a.2 < b.2 := by
      intro a b A B hA hB e h hlt
      have ha := hA.1 a List.mem_cons_self
      have hb := hB.1 b List.mem_cons_self
      have h1 : inB (b :: B) a.2 = true := by rw [inB_cons]; simp; left; omega
      rw [← h, inB_cons] at h1
      rcases Bool.or_eq_true_iff.1 h1 with h2 | h2
      · have := of_decide_eq_true h2; omega
      · have := hA.behind h2; omega
    have e2 : a.2 = b.2 := by
      have h1 := ends hA hB e1 h
      have h2 := ends hB hA e1.symm (fun y => (h y).symm)
      omega
    have e : a = b := Prod.ext e1 e2
    subst e
    have hr : ∀ y, inB A y = inB B y := by
      intro y
      by_cases hy : a.2 < y
      · have := h y
        rw [inB_cons, inB_cons] at this
        have hd : decide (a.1 ≤ y ∧ y < a.2 ∧ -1073741824 ≤ y ∧ y < 1073741824) = false := by simp; omega
        rw [hd] at this
        simpa using this
      · have f : ∀ {L : Bands}, GoodL (a :: L) → inB L y = false := by
          intro L hL
          cases hi : inB L y with
          | false => rfl
          | true => exact absurd (hL.behind hi) hy
        rw [f hA, f hB]
    rw [good_unique hA.tail hB.tail hr]

/-! ### rows that are told one by one, from row -100 on -/
/-- the good bands of the first n rows, the last one first -/
def ofR (has : Nat → Bool) : Nat → Bands
  | 0 => []
  | n + 1 => if has n then (if 0 < n && has (n - 1) then (match ofR has n with | (f, _) :: r => (f, (n : Int) + 1 - 100) :: r | [] => []) else ((n : Int) - 100, (n : Int) + 1 - 100) :: ofR has n) else ofR has n
structure OfInv (has : Nat → Bool) (n : Nat) (R : Bands) : Prop where
  each : ∀ b ∈ R, -100 ≤ b.1 ∧ b.1 < b.2 ∧ b.2 ≤ (n : Int) - 100
  apart : R.Pairwise fun b c => c.2 < b.1
  rows : ∀ y, inB R y = decide (-100 ≤ y ∧ y < (n : Int) - 100 ∧ has (y + 100).toNat = true)
  last : (0 < n ∧ has (n - 1) = true → ∃ f r, R = (f, (n : Int) - 100) :: r) ∧ ((0 < n ∧ has (n - 1) = true) ∨ ∀ b ∈ R, b.2 < (n : Int) - 100)
theorem ofR_inv (has : Nat → Bool) : ∀ n, n ≤ 1000000 → OfInv has n (ofR has n)
  | 0, _ => ⟨by simp [ofR], List.Pairwise.nil, fun y => by simp [ofR, inB_nil]; omega, by simp, .inr (by simp [ofR])⟩
  | n + 1, hn => by
    have ih := ofR_inv has n (by omega)
    unfold ofR
    by_cases h : has n = true
    · rw [if_pos h]
      by_cases hp : (0 < n && has (n - 1)) = true
      · rw [if_pos hp]
        obtain ⟨p1, p2⟩ := Bool.and_eq_true_iff.1 hp
        obtain ⟨f, r, hR⟩ := ih.last.1 ⟨of_decide_eq_true p1, p2⟩
        rw [hR] at ih ⊢
        have hf := ih.each (f, (n : Int) - 100) List.mem_cons_self
        refine ⟨?_, ?_, ?_, ⟨fun _ => ⟨f, r, by rw [show ((n + 1 : Nat) : Int) = (n : Int) + 1 by omega]⟩, .inl ⟨by omega, by simpa using h⟩⟩⟩
        · intro b hb
          rcases List.mem_cons.1 hb with rfl | hb
          · simp only at hf ⊢; omega
          · have := ih.each b (List.mem_cons_of_mem _ hb); omega
        · exact List.pairwise_cons.2 ⟨(List.pairwise_cons.1 ih.apart).1, (List.pairwise_cons.1 ih.apart).2⟩
        · intro y
          have := ih.rows y
          rw [inB_cons] at this ⊢
          simp only at this ⊢ hf
          by_cases hy : y = (n : Int) - 100
          · subst hy
            have e : ((n : Int) - 100 + 100).toNat = n := by omega
            have t1 : decide (f ≤ (n : Int) - 100 ∧ (n : Int) - 100 < (n : Int) + 1 - 100 ∧ -1073741824 ≤ (n : Int) - 100 ∧ (n : Int) - 100 < 1073741824) = true := by rw [decide_eq_true_eq]; omega
            rw [t1, Bool.true_or]
            symm
            rw [decide_eq_true_eq]
            exact ⟨by omega, by omega, by rw [e]; exact h⟩
          · have e1 : decide (f ≤ y ∧ y < (n : Int) + 1 - 100 ∧ -1073741824 ≤ y ∧ y < 1073741824) = decide (f ≤ y ∧ y < (n : Int) - 100 ∧ -1073741824 ≤ y ∧ y < 1073741824) := by
              rw [decide_eq_decide]; omega
            rw [e1, this, decide_eq_decide]
            exact ⟨fun ⟨h1, h2, h3⟩ => ⟨h1, by omega, h3⟩, fun ⟨h1, h2, h3⟩ => ⟨h1, by omega, h3⟩⟩
      · rw [if_neg hp]
        have hl : ∀ b ∈ ofR has n, b.2 < (n : Int) - 100 := by
          rcases ih.last.2 with ⟨q1, q2⟩ | q
          · exact absurd (by simp [q1, q2]) hp
          · exact q
        refine ⟨?_, ?_, ?_, ⟨fun _ => ⟨(n : Int) - 100, ofR has n, by rw [show ((n + 1 : Nat) : Int) = (n : Int) + 1 by omega]⟩, .inl ⟨by omega, by simpa using h⟩⟩⟩
        · intro b hb
          rcases List.mem_cons.1 hb with rfl | hb
          · simp only; omega
          · have := ih.each b hb; omega
        · exact List.pairwise_cons.2 ⟨fun c hc => hl c hc, ih.apart⟩
        · intro y
          rw [inB_cons, ih.rows y]
          by_cases hy : y = (n : Int) - 100
          · subst hy
            have e : ((n : Int) - 100 + 100).toNat = n := by omega
            have t1 : decide ((n : Int) - 100 ≤ (n : Int) - 100 ∧ (n : Int) - 100 < (n : Int) + 1 - 100 ∧ -1073741824 ≤ (n : Int) - 100 ∧ (n : Int) - 100 < 1073741824) = true := by rw [decide_eq_true_eq]; omega
            simp only
            rw [t1, Bool.true_or]
            symm
            rw [decide_eq_true_eq]
            exact ⟨by omega, by omega, by rw [e]; exact h⟩
          · have e1 : decide ((n : Int) - 100 ≤ y ∧ y < (n : Int) + 1 - 100 ∧ -1073741824 ≤ y ∧ y < 1073741824) = false := by simp; omega
            simp only
            rw [e1, Bool.false_or, decide_eq_decide]
            exact ⟨fun ⟨h1, h2, h3⟩ => ⟨h1, by omega, h3⟩, fun ⟨h1, h2, h3⟩ => ⟨h1, by omega, h3⟩⟩
    · rw [if_neg h]
      refine ⟨fun b hb => by have := ih.each b hb; omega, ih.apart, ?_, ⟨fun q => absurd (by simpa using q.2) h, .inr fun b hb => by have := ih.each b hb; omega⟩⟩
      intro y
      rw [ih.rows y, decide_eq_decide]
      constructor
      · rintro ⟨h1, h2, h3⟩; exact ⟨h1, by omega, h3⟩
      · rintro ⟨h1, h2, h3⟩
        refine ⟨h1, ?_, h3⟩
        by_cases hy : y = (n : Int) - 100
        · subst hy
          have e : ((n : Int) - 100 + 100).toNat = n := by omega
          rw [e] at h3; exact absurd h3 h
        · omega
def ofL (has : Nat → Bool) (n : Nat) : Bands := (ofR has n).reverse
theorem ofL_good (has : Nat → Bool) (n : Nat) (hn : n ≤ 1000000) : GoodL (ofL has n) := by
  have h := ofR_inv has n hn
  refine ⟨fun b hb => ?_, ?_⟩
  · have := h.each b (by simpa [ofL] using hb); omega
  · unfold ofL; rw [List.pairwise_reverse]; exact h.apart
theorem ofL_rows (has : Nat → Bool) (n : Nat) (hn : n ≤ 1000000) (y : Int) : inB (ofL has n) y = decide (-100 ≤ y ∧ y < (n : Int) - 100 ∧ has (y + 100).toNat = true) := by
  unfold ofL; rw [inB_reverse]; exact (ofR_inv has n hn).rows y

/-! ### how many good bands there are -/
theorem len_le_of_sub : ∀ (X S : List Int), X.Pairwise (· < ·) → (∀ x ∈ X, x ∈ S) → X.length ≤ S.length
  | [], _, _, _ => Nat.zero_le _
  | x :: X, S, hp, hs => by
    have hx : x ∈ S := hs x List.mem_cons_self
    obtain ⟨h1, h2⟩ := List.pairwise_cons.1 hp
    have ih := len_le_of_sub X (S.erase x) h2 (fun z hz => (List.mem_erase_of_ne (by have := h1 z hz; omega)).2 (hs z (List.mem_cons_of_mem _ hz)))
    rw [List.length_erase_of_mem hx] at ih
    have : 0 < S.length := List.length_pos_of_mem hx
    simp only [List.length_cons]; omega
theorem GoodL.ahead : ∀ {T : Bands}, GoodL T → ∀ b ∈ T, inB T b.1 = true ∧ inB T (b.1 - 1) = false
  | [], _, _, hb => by cases hb
  | a :: T, h, b, hb => by
    have ha := h.1 a List.mem_cons_self
    rcases List.mem_cons.1 hb with rfl | hb'
    · refine ⟨h.first, ?_⟩
      cases hi : inB (b :: T) (b.1 - 1) with
      | false => rfl
      | true => have := h.lower hi; omega
    · obtain ⟨k1, k2⟩ := GoodL.ahead h.tail b hb'
      have hab := (List.pairwise_cons.1 h.2).1 b hb'
      refine ⟨by rw [inB_cons, k1, Bool.or_true], ?_⟩
      rw [inB_cons, k2, Bool.or_false]
      exact decide_eq_false (by omega)
theorem good_len {T : Bands} (h : GoodL T) (S : List Int) (hs : ∀ s, inB T s = true → inB T (s - 1) = false → s ∈ S) : T.length ≤ S.length := by
  have := len_le_of_sub (T.map (·.1)) S (by
    rw [List.pairwise_map]
    refine h.2.imp_of_mem ?_
    intro a b ha hb hab
    have := h.1 a ha
    omega) (by
    intro x hx
    obtain ⟨b, hb, rfl⟩ := List.mem_map.1 hx
    obtain ⟨h1, h2⟩ := h.ahead b hb
    exact hs _ h1 h2)
  simpa using this
theorem inB_start {l : Bands} {s : Int} (h : inB l s = true) (h1 : inB l (s - 1) = false) : s ∈ -1073741824 :: l.map (·.1) := by
  obtain ⟨b, hb, h2, h3, h4, h5⟩ := inB_iff.1 h
  by_cases hs : s = -1073741824
  · rw [hs]; exact List.mem_cons_self
  · by_cases hb1 : s = b.1
    · rw [hb1]; exact List.mem_cons_of_mem _ (List.mem_map.2 ⟨b, hb, rfl⟩)
    · have : inB l (s - 1) = true := inB_iff.2 ⟨b, hb, by omega, by omega, by omega, by omega⟩
      rw [h1] at this; cases this
theorem inB_end {l : Bands} {s : Int} (h : inB l s = false) (h1 : inB l (s - 1) = true) (hs : s < 1073741824) : s ∈ l.map (·.2) := by
  obtain ⟨b, hb, h2, h3, h4, h5⟩ := inB_iff.1 h1
  by_cases hb1 : s = b.2
  · rw [hb1]; exact List.mem_map.2 ⟨b, hb, rfl⟩
  · have : inB l s = true := inB_iff.2 ⟨b, hb, by omega, by omega, by omega, by omega⟩
    rw [h] at this; cases this
theorem inB_top {l : Bands} {s : Int} (h : inB l s = true) : s < 1073741824 := by
  obtain ⟨b, hb, h2, h3, h4, h5⟩ := inB_iff.1 h; exact h5
/-- rows of one list -/
theorem len_one {T l : Bands} (h : GoodL T) (hr : ∀ y, inB T y = inB l y) : T.length ≤ l.length + 1 := by
  have := good_len h (-1073741824 :: l.map (·.1)) (fun s h1 h2 => inB_start (by rw [← hr]; exact h1) (by rw [← hr]; exact h2))
  simpa using this
/-- rows of either list, of both, of one and not the other one -/
theorem len_or {T a b : Bands} (h : GoodL T) (hr : ∀ y, inB T y = (inB a y || inB b y)) : T.length ≤ a.length + b.length + 1 := by
  have := len_one (l := a ++ b) h (fun y => by rw [hr, inB_append])
  simpa using this
theorem len_and {T a b : Bands} (h : GoodL T) (hr : ∀ y, inB T y = (inB a y && inB b y)) : T.length ≤ a.length + b.length + 1 := by
  have := good_len h (-1073741824 :: (a ++ b).map (·.1)) (fun s h1 h2 => by
    rw [hr, Bool.and_eq_true] at h1
    rw [hr, Bool.and_eq_false_iff] at h2
    rcases h2 with h2 | h2
    · rcases List.mem_cons.1 (inB_start h1.1 h2) with e | e
      · rw [e]; exact List.mem_cons_self
      · exact List.mem_cons_of_mem _ (by rw [List.map_append]; exact List.mem_append_left _ e)
    · rcases List.mem_cons.1 (inB_start h1.2 h2) with e | e
      · rw [e]; exact List.mem_cons_self
      · exact List.mem_cons_of_mem _ (by rw [List.map_append]; exact List.mem_append_right _ e))
  simpa using this
theorem len_not {T a b : Bands} (h : GoodL T) (hr : ∀ y, inB T y = (inB a y && !inB b y)) : T.length ≤ a.length + b.length + 1 := by
  have := good_len h (-1073741824 :: (a.map (·.1) ++ b.map (·.2))) (fun s h1 h2 => by
    rw [hr, Bool.and_eq_true] at h1
    rw [hr, Bool.and_eq_false_iff] at h2
    rcases h2 with h2 | h2
    · rcases List.mem_cons.1 (inB_start h1.1 h2) with e | e
      · rw [e]; exact List.mem_cons_self
      · exact List.mem_cons_of_mem _ (List.mem_append_left _ e)
    · exact List.mem_cons_of_mem _ (List.mem_append_right _ (inB_end (by simpa using h1.2) (by simpa using h2) (inB_top h1.1))))
  simpa [Nat.add_assoc] using this
theorem len_move {T a : Bands} {D F U : Int} (h : GoodL T) (hr : ∀ y, inB T y = (inB a (y - D) && decide (F ≤ y ∧ y < U))) : T.length ≤ a.length + 2 := by
  have := good_len h (F :: (-1073741824 :: a.map (·.1)).map (· + D)) (fun s h1 h2 => by
    rw [hr, Bool.and_eq_true, decide_eq_true_eq] at h1
    rw [hr, Bool.and_eq_false_iff, decide_eq_false_iff_not] at h2
    by_cases hs : s = F
    · rw [hs]; exact List.mem_cons_self
    · refine List.mem_cons_of_mem _ (List.mem_map.2 ⟨s - D, inB_start h1.1 ?_, by omega⟩)
      rcases h2 with h2 | h2
      · rw [show s - D - 1 = s - 1 - D by omega]; exact h2
      · exact absurd ⟨by omega, by omega⟩ h2)
  simpa using this
end Go.Proofs.Ytgfmfkjebnllnaa
