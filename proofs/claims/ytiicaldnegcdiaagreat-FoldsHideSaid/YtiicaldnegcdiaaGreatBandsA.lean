/- band: plain mathematics: rows that bands have, good bands, that good bands of the same rows are the same, and the good bands of rows that are told one by one. No condition. band: the document's own answers by contract: which bands have a row (In), whether they are near (Near), whether two lists are one (Same). band: Same, whether two lists of bands are one; few, the first thirty of any, in memory of their own; rows of bands that a call owns. band: Of, the good bands of rows that are told one by one. band: what the program's functions are to tell (Says: to be proved of the code at hand); on that: lives. band: plain mathematics of what the program does: bounds brought within, bands in order made one, two good lists walked side by side, the gaps of good bands, how many rows there are. No condition. band: the small functions by contract: Clamp, within, filled, bound, cmp.Compare at int, and the closures that Tidy, Has, Move and the sort hand on. band: merged, which makes bands in order one, in their own memory. band: merged by contract. -/
import Derived.Test.YtiicaldnegcdiaaGreatChecked
import Derived.Test.YtiicaldnegcdiaaGreatOwn
import Derived.Deep.LoopGhost
import Derived.LoopN
import Derived.Laws.StructEq
import Derived.Deep.QuietTactic
import Derived.ArgAppend
namespace Go.Proofs.YtiicaldnegcdiaaGreat
set_option linter.unusedSimpArgs false
set_option linter.unusedVariables false
set_option linter.unusedSectionVars false

abbrev Bands := List (Int × Int)
def inB (L : Bands) (y : Int) : Bool := L.any fun b => decide (b.1 ≤ y ∧ y < b.2 ∧ -1073741824 ≤ y ∧ y < 1073741824)
def GoodL (L : Bands) : Prop := (∀ b ∈ L, -1073741824 ≤ b.1 ∧ b.1 < b.2 ∧ b.2 ≤ 1073741824) ∧ L.Pairwise fun b c => b.2 < c.1
theorem inB_iff {L : Bands} {y : Int} : inB L y = true ↔ ∃ b ∈ L, b.1 ≤ y ∧ y < b.2 ∧ -1073741824 ≤ y ∧ y < 1073741824 := by
  unfold inB; rw [List.any_eq_true]; simp
theorem inB_nil (y : Int) : inB [] y = false := rfl
theorem inB_cons (b : Int × Int) (L : Bands) (y : Int) : inB (b :: L) y = (decide (b.1 ≤ y ∧ y < b.2 ∧ -1073741824 ≤ y ∧ y < 1073741824) || inB L y) := rfl
theorem inB_append (A B : Bands) (y : Int) : inB (A ++ B) y = (inB A y || inB B y) := by unfold inB; rw [List.any_append]
theorem inB_reverse (A : Bands) (y : Int) : inB A.reverse y = inB A y := by unfold inB; rw [List.any_reverse]
theorem GoodL.nil : GoodL [] := ⟨by simp, List.Pairwise.nil⟩
theorem GoodL.tail {b : Int × Int} {L : Bands} (h : GoodL (b :: L)) : GoodL L := ⟨fun c hc => h.1 c (List.mem_cons_of_mem _ hc), (List.pairwise_cons.1 h.2).2⟩
/-- a row of the rest lies behind the first band's end -/
theorem GoodL.behind {b : Int × Int} {L : Bands} (h : GoodL (b :: L)) {y : Int} (hy : inB L y = true) : b.2 < y := by
  obtain ⟨c, hc, h1, _⟩ := inB_iff.1 hy
  have := (List.pairwise_cons.1 h.2).1 c hc
  omega
theorem GoodL.first {b : Int × Int} {L : Bands} (h : GoodL (b :: L)) : inB (b :: L) b.1 = true := by
  have := h.1 b List.mem_cons_self
  rw [inB_cons]; simp; left; omega
theorem GoodL.lower {b : Int × Int} {L : Bands} (h : GoodL (b :: L)) {y : Int} (hy : inB (b :: L) y = true) : b.1 ≤ y := by
  have hb := h.1 b List.mem_cons_self
  rw [inB_cons] at hy
  rcases Bool.or_eq_true_iff.1 hy with h1 | h1
  · have := of_decide_eq_true h1; omega
  · have := h.behind h1; omega
/-- P4.3 -/
theorem good_unique : ∀ {A B : Bands}, GoodL A → GoodL B → (∀ y, inB A y = inB B y) → A = B
  | [], [], _, _, _ => rfl
  | [], b :: B, _, hB, h => by have := hB.first; rw [← h, inB_nil] at this; cases this
  | a :: A, [], hA, _, h => by have := hA.first; rw [h, inB_nil] at this; cases this
  | a :: A, b :: B, hA, hB, h => by
    have ha := hA.1 a List.mem_cons_self
    have hb := hB.1 b List.mem_cons_self
    have e1 : a.1 = b.1 := by
      have h1 := hB.lower (by rw [← h]; exact hA.first)
      have h2 := hA.lower (by rw [h]; exact hB.first)
      omega
    have ends : ∀ {a b : Int × Int} {A B : Bands}, GoodL (a :: A) → GoodL (b :: B) → a.1 = b.1 → (∀ y, inB (a :: A) y = inB (b :: B) y) → ¬ a.2 < b.2 := by
      intro a b A B hA hB e h hlt
      have ha := hA.1 a List.mem_cons_self
      have hb := hB.1 b List.mem_cons_self
      have h1 : inB (b :: B) a.2 = true := by rw [inB_cons]; simp; left; omega
      rw [← h, inB_cons] at h1
      rcases Bool.or_eq_true_iff.1 h1 with h2 | h2
      · have := of_decide_eq_true h2; omega
      · have := hA.behind h2; omega
    have e2 : a.2 = b.2 := by
      have h1 := ends hA hB e1 h
      have h2 := ends hB hA e1.symm (fun y => (h y).symm)
      omega
    have e : a = b := Prod.ext e1 e2
    subst e
    have hr : ∀ y, inB A y = inB B y := by
      intro y
      by_cases hy : a.2 < y
      · have := h y
        rw [inB_cons, inB_cons] at this
        have hd : decide (a.1 ≤ y ∧ y < a.2 ∧ -1073741824 ≤ y ∧ y < 1073741824) = false := by simp; omega
        rw [hd] at this
        simpa using this
      · have f : ∀ {L : Bands}, GoodL (a :: L) → inB L y = false := by
          intro L hL
          cases hi : inB L y with
          | false => rfl
          | true => exact absurd (hL.behind hi) hy
        rw [f hA, f hB]
    rw [good_unique hA.tail hB.tail hr]

/-! ### rows that are told one by one, from row -100 on -/
/-- the good bands of the first n rows, the last one first -/
def ofR (has : Nat → Bool) : Nat → Bands
  | 0 => []
  | n + 1 => if has n then (if 0 < n && has (n - 1) then (match ofR has n with | (f, _) :: r => (f, (n : Int) + 1 - 100) :: r | [] => []) else ((n : Int) - 100, (n : Int) + 1 - 100) :: ofR has n) else ofR has n
structure OfInv (has : Nat → Bool) (n : Nat) (R : Bands) : Prop where
  each : ∀ b ∈ R, -100 ≤ b.1 ∧ b.1 < b.2 ∧ b.2 ≤ (n : Int) - 100
  apart : R.Pairwise fun b c => c.2 < b.1
  rows : ∀ y, inB R y = decide (-100 ≤ y ∧ y < (n : Int) - 100 ∧ has (y + 100).toNat = true)
  last : (0 < n ∧ has (n - 1) = true → ∃ f r, R = (f, (n : Int) - 100) :: r) ∧ ((0 < n ∧ has (n - 1) = true) ∨ ∀ b ∈ R, b.2 < (n : Int) - 100)
theorem ofR_inv (has : Nat → Bool) : ∀ n, n ≤ 1000000 → OfInv has n (ofR has n)
  | 0, _ => ⟨by simp [ofR], List.Pairwise.nil, fun y => by simp [ofR, inB_nil]; omega, by simp, .inr (by simp [ofR])⟩
  | n + 1, hn => by
    have ih := ofR_inv has n (by omega)
    unfold ofR
    by_cases h : has n = true
    · rw [if_pos h]
      by_cases hp : (0 < n && has (n - 1)) = true
      · rw [if_pos hp]
        obtain ⟨p1, p2⟩ := Bool.and_eq_true_iff.1 hp
        obtain ⟨f, r, hR⟩ := ih.last.1 ⟨of_decide_eq_true p1, p2⟩
        rw [hR] at ih ⊢
        have hf := ih.each (f, (n : Int) - 100) List.mem_cons_self
        refine ⟨?_, ?_, ?_, ⟨fun _ => ⟨f, r, by rw [show ((n + 1 : Nat) : Int) = (n : Int) + 1 by omega]⟩, .inl ⟨by omega, by simpa using h⟩⟩⟩
        · intro b hb
          rcases List.mem_cons.1 hb with rfl | hb
          · simp only at hf ⊢; omega
          · have := ih.each b (List.mem_cons_of_mem _ hb); omega
        · exact List.pairwise_cons.2 ⟨(List.pairwise_cons.1 ih.apart).1, (List.pairwise_cons.1 ih.apart).2⟩
        · intro y
          have := ih.rows y
          rw [inB_cons] at this ⊢
          simp only at this ⊢ hf
          by_cases hy : y = (n : Int) - 100
          · subst hy
            have e : ((n : Int) - 100 + 100).toNat = n := by omega
            have t1 : decide (f ≤ (n : Int) - 100 ∧ (n : Int) - 100 < (n : Int) + 1 - 100 ∧ -1073741824 ≤ (n : Int) - 100 ∧ (n : Int) - 100 < 1073741824) = true := by rw [decide_eq_true_eq]; omega
            rw [t1, Bool.true_or]
            symm
            rw [decide_eq_true_eq]
            exact ⟨by omega, by omega, by rw [e]; exact h⟩
          · have e1 : decide (f ≤ y ∧ y < (n : Int) + 1 - 100 ∧ -1073741824 ≤ y ∧ y < 1073741824) = decide (f ≤ y ∧ y < (n : Int) - 100 ∧ -1073741824 ≤ y ∧ y < 1073741824) := by
              rw [decide_eq_decide]; omega
            rw [e1, this, decide_eq_decide]
            exact ⟨fun ⟨h1, h2, h3⟩ => ⟨h1, by omega, h3⟩, fun ⟨h1, h2, h3⟩ => ⟨h1, by omega, h3⟩⟩
      · rw [if_neg hp]
        have hl : ∀ b ∈ ofR has n, b.2 < (n : Int) - 100 := by
          rcases ih.last.2 with ⟨q1, q2⟩ | q
          · exact absurd (by simp [q1, q2]) hp
          · exact q
        refine ⟨?_, ?_, ?_, ⟨fun _ => ⟨(n : Int) - 100, ofR has n, by rw [show ((n + 1 : Nat) : Int) = (n : Int) + 1 by omega]⟩, .inl ⟨by omega, by simpa using h⟩⟩⟩
        · intro b hb
          rcases List.mem_cons.1 hb with rfl | hb
          · simp only; omega
          · have := ih.each b hb; omega
        · exact List.pairwise_cons.2 ⟨fun c hc => hl c hc, ih.apart⟩
        · intro y
          rw [inB_cons, ih.rows y]
          by_cases hy : y = (n : Int) - 100
          · subst hy
            have e : ((n : Int) - 100 + 100).toNat = n := by omega
            have t1 : decide ((n : Int) - 100 ≤ (n : Int) - 100 ∧ (n : Int) - 100 < (n : Int) + 1 - 100 ∧ -1073741824 ≤ (n : Int) - 100 ∧ (n : Int) - 100 < 1073741824) = true := by rw [decide_eq_true_eq]; omega
            simp only
            rw [t1, Bool.true_or]
            symm
            rw [decide_eq_true_eq]
            exact ⟨by omega, by omega, by rw [e]; exact h⟩
          · have e1 : decide ((n : Int) - 100 ≤ y ∧ y < (n : Int) + 1 - 100 ∧ -1073741824 ≤ y ∧ y < 1073741824) = false := by simp; omega
            simp only
            rw [e1, Bool.false_or, decide_eq_decide]
            exact ⟨fun ⟨h1, h2, h3⟩ => ⟨h1, by omega, h3⟩, fun ⟨h1, h2, h3⟩ => ⟨h1, by omega, h3⟩⟩
    · rw [if_neg h]
      refine ⟨fun b hb => by have := ih.each b hb; omega, ih.apart, ?_, ⟨fun q => absurd (by simpa using q.2) h, .inr fun b hb => by have := ih.each b hb; omega⟩⟩
      intro y
      rw [ih.rows y, decide_eq_decide]
      constructor
      · rintro ⟨h1, h2, h3⟩; exact ⟨h1, by omega, h3⟩
      · rintro ⟨h1, h2, h3⟩
        refine ⟨h1, ?_, h3⟩
        by_cases hy : y = (n : Int) - 100
        · subst hy
          have e : ((n : Int) - 100 + 100).toNat = n := by omega
          rw [e] at h3; exact absurd h3 h
        · omega
def ofL (has : Nat → Bool) (n : Nat) : Bands := (ofR has n).reverse
theorem ofL_good (has : Nat → Bool) (n : Nat) (hn : n ≤ 1000000) : GoodL (ofL has n) := by
  have h := ofR_inv has n hn
  refine ⟨fun b hb => ?_, ?_⟩
  · have := h.each b (by simpa [ofL] using hb); omega
  · unfold ofL; rw [List.pairwise_reverse]; exact h.apart
theorem ofL_rows (has : Nat → Bool) (n : Nat) (hn : n ≤ 1000000) (y : Int) : inB (ofL has n) y = decide (-100 ≤ y ∧ y < (n : Int) - 100 ∧ has (y + 100).toNat = true) := by
  unfold ofL; rw [inB_reverse]; exact (ofR_inv has n hn).rows y

/-! ### how many good bands there are -/
theorem len_le_of_sub : ∀ (X S : List Int), X.Pairwise (· < ·) → (∀ x ∈ X, x ∈ S) → X.length ≤ S.length
  | [], _, _, _ => Nat.zero_le _
  | x :: X, S, hp, hs => by
    have hx : x ∈ S := hs x List.mem_cons_self
    obtain ⟨h1, h2⟩ := List.pairwise_cons.1 hp
    have ih := len_le_of_sub X (S.erase x) h2 (fun z hz => (List.mem_erase_of_ne (by have := h1 z hz; omega)).2 (hs z (List.mem_cons_of_mem _ hz)))
    rw [List.length_erase_of_mem hx] at ih
    have : 0 < S.length := List.length_pos_of_mem hx
    simp only [List.length_cons]; omega
theorem GoodL.ahead : ∀ {T : Bands}, GoodL T → ∀ b ∈ T, inB T b.1 = true ∧ inB T (b.1 - 1) = false
  | [], _, _, hb => by cases hb
  | a :: T, h, b, hb => by
    have ha := h.1 a List.mem_cons_self
    rcases List.mem_cons.1 hb with rfl | hb'
    · refine ⟨h.first, ?_⟩
      cases hi : inB (b :: T) (b.1 - 1) with
      | false => rfl
      | true => have := h.lower hi; omega
    · obtain ⟨k1, k2⟩ := GoodL.ahead h.tail b hb'
      have hab := (List.pairwise_cons.1 h.2).1 b hb'
      refine ⟨by rw [inB_cons, k1, Bool.or_true], ?_⟩
      rw [inB_cons, k2, Bool.or_false]
      exact decide_eq_false (by omega)
theorem good_len {T : Bands} (h : GoodL T) (S : List Int) (hs : ∀ s, inB T s = true → inB T (s - 1) = false → s ∈ S) : T.length ≤ S.length := by
  have := len_le_of_sub (T.map (·.1)) S (by
    rw [List.pairwise_map]
    refine h.2.imp_of_mem ?_
    intro a b ha hb hab
    have := h.1 a ha
    omega) (by
    intro x hx
    obtain ⟨b, hb, rfl⟩ := List.mem_map.1 hx
    obtain ⟨h1, h2⟩ := h.ahead b hb
    exact hs _ h1 h2)
  simpa using this
theorem inB_start {l : Bands} {s : Int} (h : inB l s = true) (h1 : inB l (s - 1) = false) : s ∈ -1073741824 :: l.map (·.1) := by
  obtain ⟨b, hb, h2, h3, h4, h5⟩ := inB_iff.1 h
  by_cases hs : s = -1073741824
  · rw [hs]; exact List.mem_cons_self
  · by_cases hb1 : s = b.1
    · rw [hb1]; exact List.mem_cons_of_mem _ (List.mem_map.2 ⟨b, hb, rfl⟩)
    · have : inB l (s - 1) = true := inB_iff.2 ⟨b, hb, by omega, by omega, by omega, by omega⟩
      rw [h1] at this; cases this
theorem inB_end {l : Bands} {s : Int} (h : inB l s = false) (h1 : inB l (s - 1) = true) (hs : s < 1073741824) : s ∈ l.map (·.2) := by
  obtain ⟨b, hb, h2, h3, h4, h5⟩ := inB_iff.1 h1
  by_cases hb1 : s = b.2
  · rw [hb1]; exact List.mem_map.2 ⟨b, hb, rfl⟩
  · have : inB l s = true := inB_iff.2 ⟨b, hb, by omega, by omega, by omega, by omega⟩
    rw [h] at this; cases this
theorem inB_top {l : Bands} {s : Int} (h : inB l s = true) : s < 1073741824 := by
  obtain ⟨b, hb, h2, h3, h4, h5⟩ := inB_iff.1 h; exact h5
/-- rows of one list -/
theorem len_one {T l : Bands} (h : GoodL T) (hr : ∀ y, inB T y = inB l y) : T.length ≤ l.length + 1 := by
  have := good_len h (-1073741824 :: l.map (·.1)) (fun s h1 h2 => inB_start (by rw [← hr]; exact h1) (by rw [← hr]; exact h2))
  simpa using this
/-- rows of either list, of both, of one and not the other one -/
theorem len_or {T a b : Bands} (h : GoodL T) (hr : ∀ y, inB T y = (inB a y || inB b y)) : T.length ≤ a.length + b.length + 1 := by
  have := len_one (l := a ++ b) h (fun y => by rw [hr, inB_append])
  simpa using this
theorem len_and {T a b : Bands} (h : GoodL T) (hr : ∀ y, inB T y = (inB a y && inB b y)) : T.length ≤ a.length + b.length + 1 := by
  have := good_len h (-1073741824 :: (a ++ b).map (·.1)) (fun s h1 h2 => by
    rw [hr, Bool.and_eq_true] at h1
    rw [hr, Bool.and_eq_false_iff] at h2
    rcases h2 with h2 | h2
    · rcases List.mem_cons.1 (inB_start h1.1 h2) with e | e
      · rw [e]; exact List.mem_cons_self
      · exact List.mem_cons_of_mem _ (by rw [List.map_append]; exact List.mem_append_left _ e)
    · rcases List.mem_cons.1 (inB_start h1.2 h2) with e | e
      · rw [e]; exact List.mem_cons_self
      · exact List.mem_cons_of_mem _ (by rw [List.map_append]; exact List.mem_append_right _ e))
  simpa using this
theorem len_not {T a b : Bands} (h : GoodL T) (hr : ∀ y, inB T y = (inB a y && !inB b y)) : T.length ≤ a.length + b.length + 1 := by
  have := good_len h (-1073741824 :: (a.map (·.1) ++ b.map (·.2))) (fun s h1 h2 => by
    rw [hr, Bool.and_eq_true] at h1
    rw [hr, Bool.and_eq_false_iff] at h2
    rcases h2 with h2 | h2
    · rcases List.mem_cons.1 (inB_start h1.1 h2) with e | e
      · rw [e]; exact List.mem_cons_self
      · exact List.mem_cons_of_mem _ (List.mem_append_left _ e)
    · exact List.mem_cons_of_mem _ (List.mem_append_right _ (inB_end (by simpa using h1.2) (by simpa using h2) (inB_top h1.1))))
  simpa [Nat.add_assoc] using this
theorem len_move {T a : Bands} {D F U : Int} (h : GoodL T) (hr : ∀ y, inB T y = (inB a (y - D) && decide (F ≤ y ∧ y < U))) : T.length ≤ a.length + 2 := by
  have := good_len h (F :: (-1073741824 :: a.map (·.1)).map (· + D)) (fun s h1 h2 => by
    rw [hr, Bool.and_eq_true, decide_eq_true_eq] at h1
    rw [hr, Bool.and_eq_false_iff, decide_eq_false_iff_not] at h2
    by_cases hs : s = F
    · rw [hs]; exact List.mem_cons_self
    · refine List.mem_cons_of_mem _ (List.mem_map.2 ⟨s - D, inB_start h1.1 ?_, by omega⟩)
      rcases h2 with h2 | h2
      · rw [show s - D - 1 = s - 1 - D by omega]; exact h2
      · exact absurd ⟨by omega, by omega⟩ h2)
  simpa using this
end Go.Proofs.YtiicaldnegcdiaaGreat
namespace Go.Proofs.YtiicaldnegcdiaaGreat
set_option linter.unusedSimpArgs false
set_option linter.unusedVariables false
set_option linter.unusedSectionVars false
open Go.RowKit

/-- a slice that reads as these bands -/
def RB (w : World) (v : Value) (l : Bands) : Prop := ∃ (A : Option Addr) (cap : Nat), v = .slice A l.length cap ∧ l.length ≤ cap ∧ (0 < l.length → ∃ b off, A = some ⟨b, off, none⟩ ∧ b < w.heap.size ∧ ∀ (j : Nat) (h : j < l.length), w.cell? ⟨b, off + j * 2, none⟩ = some (.int .i64 l[j].1) ∧ w.cell? ⟨b, off + j * 2 + 1, none⟩ = some (.int .i64 l[j].2))
theorem RB.later {w w' : World} {v : Value} {l : Bands} (h : RB w v l) (ha : AnyLater w w') : RB w' v l := by
  obtain ⟨A, cap, h1, h2, h3⟩ := h
  refine ⟨A, cap, h1, h2, fun h0 => ?_⟩
  obtain ⟨b, off, e, hb, hc⟩ := h3 h0
  exact ⟨b, off, e, Nat.lt_of_lt_of_le hb ha.below.size, fun j hj => ⟨(ha.below.cell hb).trans (hc j hj).1, (ha.below.cell hb).trans (hc j hj).2⟩⟩
theorem inB_take {l : Bands} {y : Int} {j : Nat} (h : j < l.length) : inB (l.take (j + 1)) y = (inB (l.take j) y || decide (l[j].1 ≤ y ∧ y < l[j].2 ∧ -1073741824 ≤ y ∧ y < 1073741824)) := by
  rw [List.take_succ_eq_append_getElem h, inB_append, inB_cons, inB_nil, Bool.or_false]
theorem inB_hit {l : Bands} {y : Int} {j : Nat} (h : j < l.length) (hy : l[j].1 ≤ y ∧ y < l[j].2 ∧ -1073741824 ≤ y ∧ y < 1073741824) : inB l y = true :=
  inB_iff.2 ⟨l[j], List.getElem_mem h, hy⟩

/-! ### Near -/
def nearOne (b : Int × Int) : Bool := decide (-100 ≤ b.1 ∧ b.1 ≤ 300 ∧ -100 ≤ b.2 ∧ b.2 ≤ 300)
def nearB (l : Bands) : Bool := l.all nearOne && decide (l.length ≤ 60)
end Go.Proofs.YtiicaldnegcdiaaGreat
namespace Go.Proofs.YtiicaldnegcdiaaGreat
set_option linter.unusedSimpArgs false
set_option linter.unusedVariables false
set_option linter.unusedSectionVars false
open Go.RowKit

/-! ### a list of bands as cells -/
def flatB (l : Bands) : List Value := l.flatMap fun b => [.int .i64 b.1, .int .i64 b.2]
theorem flatB_nil : flatB [] = [] := rfl
theorem flatB_cons (b : Int × Int) (l : Bands) : flatB (b :: l) = .int .i64 b.1 :: .int .i64 b.2 :: flatB l := rfl
theorem flatB_append (a b : Bands) : flatB (a ++ b) = flatB a ++ flatB b := by unfold flatB; rw [List.flatMap_append]
theorem flatB_length : ∀ l : Bands, (flatB l).length = l.length * 2
  | [] => rfl
  | b :: l => by rw [flatB_cons, List.length_cons, List.length_cons, flatB_length l, List.length_cons]; omega
theorem flatB_0 : ∀ (l : Bands) (j : Nat), (flatB l)[j * 2]? = (l[j]?).map fun b => .int .i64 b.1
  | [], j => by simp [flatB_nil]
  | b :: l, 0 => rfl
  | b :: l, j + 1 => by
    rw [flatB_cons, show (j + 1) * 2 = j * 2 + 1 + 1 by omega, List.getElem?_cons_succ, List.getElem?_cons_succ, flatB_0 l j, List.getElem?_cons_succ]
theorem flatB_1 : ∀ (l : Bands) (j : Nat), (flatB l)[j * 2 + 1]? = (l[j]?).map fun b => .int .i64 b.2
  | [], j => by simp [flatB_nil]
  | b :: l, 0 => rfl
  | b :: l, j + 1 => by
    rw [flatB_cons, show (j + 1) * 2 + 1 = j * 2 + 1 + 1 + 1 by omega, List.getElem?_cons_succ, List.getElem?_cons_succ, flatB_1 l j, List.getElem?_cons_succ]
theorem flatB_one (l : Bands) : ∀ u ∈ flatB l, u.oneCell' = true := by
  intro u hu
  obtain ⟨b, _, hb⟩ := List.mem_flatMap.1 hu
  rcases List.mem_cons.1 hb with rfl | hb
  · rfl
  · rcases List.mem_cons.1 hb with rfl | hb
    · rfl
    · cases hb
/-- a row of bands that a call made itself -/
def OB (w : World) (B : Nat) (v : Value) (l : Bands) : Prop := w.ownsRow B 56 2 v l.length (flatB l)
theorem OB.reads {w : World} {B : Nat} {v : Value} {l : Bands} (h : OB w B v l) : RB w v l := by
  rcases h.2 with ⟨rfl, h0⟩ | ⟨g, cap, cur, rfl, h2, h3, h4, h5, h6, h7⟩
  · refine ⟨none, 0, by rw [h0], by omega, fun hp => by omega⟩
  · refine ⟨some ⟨g, 0, none⟩, cap, rfl, h4, fun _ => ⟨g, 0, rfl, own_lt h3, fun j hj => ?_⟩⟩
    have e : ∀ k, k < l.length * 2 → cur[k]? = (flatB l)[k]? := fun k hk => by
      have : (cur.toList.take (l.length * 2))[k]? = (flatB l)[k]? := by rw [h7]
      rw [List.getElem?_take_of_lt hk] at this
      simpa using this
    rw [Nat.zero_add, own_row h3, own_row h3, e _ (by omega), e _ (by omega), flatB_0, flatB_1, List.getElem?_eq_getElem hj]
    exact ⟨rfl, rfl⟩
theorem OB.later {w w' : World} {B : Nat} {v : Value} {l : Bands} (h : OB w B v l) (ha : AnyLater w w') : OB w' B v l := owns_later ha h
/-- what a list of bands holds, as the source of an append -/
theorem RB.cells {w w' : World} {b off : Nat} {l : Bands} (ha : AnyLater w w') (hb : 0 < l.length → b < w.heap.size) (hc : ∀ (j : Nat) (h : j < l.length), w.cell? ⟨b, off + j * 2, none⟩ = some (.int .i64 l[j].1) ∧ w.cell? ⟨b, off + j * 2 + 1, none⟩ = some (.int .i64 l[j].2)) :
    ∀ (j : Nat) (u : Value), (flatB l)[j]? = some u → w'.cell? ((⟨b, off, none⟩ : Addr).add j) = some u := by
  intro j u hu
  have hadd : (⟨b, off, none⟩ : Addr).add j = ⟨b, off + j, none⟩ := by unfold Addr.add; split <;> simp_all
  have hj : j < l.length * 2 := by
    rcases Nat.lt_or_ge j (l.length * 2) with h | h
    · exact h
    · rw [List.getElem?_eq_none (by rw [flatB_length]; exact h)] at hu; cases hu
  have hk : j / 2 < l.length := by omega
  rw [hadd, ha.below.cell (hb (by omega))]
  rcases Nat.mod_two_eq_zero_or_one j with hm | hm
  · have e : j = j / 2 * 2 := by omega
    rw [e] at hu ⊢
    rw [flatB_0, List.getElem?_eq_getElem hk] at hu
    rw [(hc _ hk).1]; exact hu
  · have e : j = j / 2 * 2 + 1 := by omega
    rw [e] at hu ⊢
    rw [flatB_1, List.getElem?_eq_getElem hk] at hu
    rw [← Nat.add_assoc, (hc _ hk).2]; exact hu

theorem info_band : (Tryz.prog.info? 56).map (fun i => (i.zero, i.size, i.bytes)) = some (some (.agg #[.int .i64 0, .int .i64 0]), 2, 16) := by kernel_rfl
theorem own_band0 (w : World) : OB (w.alloc (.cells #[] 56)) w.heap.size (.slice (some ⟨w.heap.size, 0, none⟩) 0 0) [] :=
  ⟨rfl, .inr ⟨w.heap.size, 0, #[], rfl, Nat.le_refl _, heap_new rfl, Nat.le_refl _, Nat.zero_le _, rfl, rfl⟩⟩

/-! ### few -/
def RowB (W : World) (l : Bands) (e : Ending) (w' : World) : Prop := ∃ v, e = .returned v ∧ AnyLater W w' ∧ OB w' W.heap.size v l
/-! ### Same -/
theorem stood_band : Tryz.prog.stoodInHeld 56 = false := by kernel_rfl
theorem fields_band : Tryz.prog.underlying 56 = some (.struct (Tryz.prog.fieldsOf 56)) := by kernel_rfl
theorem guard_band : Tryz.prog.eqGuardType Tryz.prog.depth 56 = false := by kernel_rfl
theorem eqBand (a b c d : Int) (w : World) : (Op.equalIn 10000 56 (.agg #[.int .i64 a, .int .i64 b]) (.agg #[.int .i64 c, .int .i64 d])).run Tryz.prog w = .ok (a == c && b == d) w := by
  rw [run_equalIn_agg w 9999 _ _ _ fields_band stood_band]
  by_cases h1 : a = c
  · by_cases h2 : b = d
    · simp [go_sem, h1, h2]
    · simp [go_sem, h1, h2]
  · simp [go_sem, h1]
theorem neqBand (a b c d : Int) (w : World) : (binOp .neq 56 (.agg #[.int .i64 a, .int .i64 b]) (.agg #[.int .i64 c, .int .i64 d])).run Tryz.prog w = .ok (.bool (!(a == c && b == d))) w := by
  rw [run_neq_struct, eqBand]; rfl
theorem eqlBand (a b c d : Int) (w : World) : (binOp .eql 56 (.agg #[.int .i64 a, .int .i64 b]) (.agg #[.int .i64 c, .int .i64 d])).run Tryz.prog w = .ok (.bool (a == c && b == d)) w := by
  rw [run_eql_struct, eqBand]; rfl

end Go.Proofs.YtiicaldnegcdiaaGreat
namespace Go.Proofs.YtiicaldnegcdiaaGreat
set_option linter.unusedSimpArgs false
set_option linter.unusedVariables false
set_option linter.unusedSectionVars false
open Go.RowKit

/-- a row of bools that a call made itself -/
def OBool (w : World) (B : Nat) (v : Value) (l : List Bool) : Prop := w.ownsRow B 4 1 v l.length (l.map Value.bool)
theorem OBool.later {w w' : World} {B : Nat} {v : Value} {l : List Bool} (h : OBool w B v l) (ha : AnyLater w w') : OBool w' B v l := owns_later ha h
/-- stores into a row of the call's own -/
theorem owns_store {w : World} {B : Nat} {e : TypeId} {size n cap g i : Nat} {xs : List Value} {x : Value} (o : w.ownsRow B e size (.slice (some ⟨g, 0, none⟩) n cap) n xs) (hi : i < xs.length) : (w.setCell ⟨g, i, none⟩ x).ownsRow B e size (.slice (some ⟨g, 0, none⟩) n cap) n (xs.set i x) := by
  refine ⟨by rw [List.length_set]; exact o.1, ?_⟩
  rcases o.2 with ⟨h1, _⟩ | ⟨g', cap', cur, h1, h2, h3, h4, h5, h6, h7⟩
  · cases h1
  · obtain ⟨rfl, rfl⟩ : g' = g ∧ cap' = cap := by cases h1; exact ⟨rfl, rfl⟩
    refine .inr ⟨g', cap', cur.setIfInBounds i x, rfl, h2, heap_at h3 rfl, h4, h5, by simpa using h6, ?_⟩
    rw [Array.toList_setIfInBounds, List.take_set, h7]
theorem flatB_set1 : ∀ (l : Bands) (j : Nat) (t : Int), (flatB l).set (j * 2 + 1) (.int .i64 t) = flatB (l.modify j fun b => (b.1, t))
  | [], j, t => by simp [flatB_nil]
  | b :: l, 0, t => rfl
  | b :: l, j + 1, t => by
    rw [flatB_cons, show (j + 1) * 2 + 1 = j * 2 + 1 + 1 + 1 by omega, List.set_cons_succ, List.set_cons_succ, flatB_set1 l j t, List.modify_succ_cons, flatB_cons]
/-- the good bands of the first rows grow -/
theorem ofR_succ (has : Nat → Bool) (n : Nat) : ofR has (n + 1) = if has n then (if 0 < n && has (n - 1) then (match ofR has n with | (f, _) :: r => (f, (n : Int) + 1 - 100) :: r | [] => []) else ((n : Int) - 100, (n : Int) + 1 - 100) :: ofR has n) else ofR has n := rfl
theorem modify_last {α : Type} (f : α → α) (x : α) : ∀ a : List α, (a ++ [x]).modify a.length f = a ++ [f x]
  | [] => rfl
  | b :: a => by rw [List.cons_append, List.length_cons, List.modify_succ_cons, modify_last f x a, List.cons_append]
theorem ofL_skip {has : Nat → Bool} {n : Nat} (h : has n = false) : ofL has (n + 1) = ofL has n := by
  unfold ofL; rw [ofR_succ, if_neg (by rw [h]; simp)]
theorem ofL_new {has : Nat → Bool} {n : Nat} (h : has n = true) (hp : ¬ (0 < n ∧ has (n - 1) = true)) : ofL has (n + 1) = ofL has n ++ [((n : Int) - 100, (n : Int) + 1 - 100)] := by
  unfold ofL
  rw [ofR_succ, if_pos h, if_neg (by simpa using hp), List.reverse_cons]
theorem ofL_more {has : Nat → Bool} {n : Nat} (h : has n = true) (hp : 0 < n ∧ has (n - 1) = true) (hn : n ≤ 1000000) : ∃ m, (ofL has n).length = m + 1 ∧ ofL has (n + 1) = (ofL has n).modify m fun b => (b.1, (n : Int) + 1 - 100) := by
  obtain ⟨f, r, hR⟩ := (ofR_inv has n hn).last.1 hp
  unfold ofL
  rw [ofR_succ, if_pos h, if_pos (by simpa using hp), hR]
  refine ⟨r.length, by simp, ?_⟩
  simp only [List.reverse_cons]
  have := modify_last (fun b : Int × Int => (b.1, (n : Int) + 1 - 100)) (f, (n : Int) - 100) r.reverse
  rw [List.length_reverse] at this
  exact this.symm
theorem ofL_length (has : Nat → Bool) : ∀ n, (ofL has n).length ≤ n
  | 0 => Nat.le_refl 0
  | n + 1 => by
    have ih := ofL_length has n
    unfold ofL at ih ⊢
    rw [List.length_reverse] at ih ⊢
    rw [ofR_succ]
    cases hR : ofR has n with
    | nil => split <;> (try split) <;> simp
    | cons b r =>
      rw [hR] at ih
      split <;> (try split) <;> simp at ih ⊢ <;> omega
/-- the row's block -/
theorem own_block {w : World} {B : Nat} {e : TypeId} {size m : Nat} {v : Value} {n : Nat} {xs : List Value} (o : w.ownsRow B e size v n xs) (hn : n = m + 1) :
    ∃ g cap cur, v = .slice (some ⟨g, 0, none⟩) (m + 1) cap ∧ B ≤ g ∧ w.heap[g]? = some (.cells cur e) ∧ n * size ≤ cur.size := by
  rcases o.2 with ⟨_, h0⟩ | ⟨g, cap, cur, rfl, h2, h3, h4, h5, h6, h7⟩
  · omega
  · exact ⟨g, cap, cur, by rw [hn], h2, h3, by rw [h6]; exact Nat.mul_le_mul_right _ h4⟩
end Go.Proofs.YtiicaldnegcdiaaGreat
namespace Go.Proofs.YtiicaldnegcdiaaGreat
set_option linter.unusedSimpArgs false
set_option linter.unusedVariables false
set_option linter.unusedSectionVars false
open Go.RowKit

def Nums (l : Bands) : Prop := ∀ b ∈ l, (-9223372036854775808 ≤ b.1 ∧ b.1 ≤ 9223372036854775807) ∧ -9223372036854775808 ≤ b.2 ∧ b.2 ≤ 9223372036854775807
theorem GoodL.nums {l : Bands} (h : GoodL l) : Nums l := fun b hb => by have := h.1 b hb; omega
/-- good bands of just these rows -/
def Told (W : World) (f : Int → Bool) (e : Ending) (w' : World) : Prop := ∃ v T, e = .returned v ∧ AnyLater W w' ∧ RB w' v T ∧ GoodL T ∧ ∀ y, inB T y = f y
def heightL (T : Bands) : Int := (T.map fun b => b.2 - b.1).sum
def clampB (y : Int) : Int := max (-1073741824) (min 1073741824 y)
theorem lives_two (y : Int) : inB [(0, 3), (3, 5)] y = inB [(0, 5)] y := by
  rw [inB_cons, inB_cons, inB_cons, inB_nil, Bool.or_false, Bool.or_false, Bool.eq_iff_iff]
  simp only [Bool.or_eq_true, decide_eq_true_eq]
  omega
theorem good_five : GoodL [(0, 5)] := ⟨by intro b hb; obtain rfl := List.mem_singleton.1 hb; omega, List.pairwise_singleton _ _⟩
theorem RB.block {w : World} {g cap : Nat} {cur : Array Value} {l : Bands} (h : w.heap[g]? = some (.cells cur 56)) (hc : cur.toList = flatB l) (hl : l.length ≤ cap) : RB w (.slice (some ⟨g, 0, none⟩) l.length cap) l := by
  refine ⟨some ⟨g, 0, none⟩, cap, rfl, hl, fun _ => ⟨g, 0, rfl, own_lt h, fun j hj => ?_⟩⟩
  have e : ∀ k, cur[k]? = (flatB l)[k]? := fun k => by rw [← hc, Array.getElem?_toList]
  rw [Nat.zero_add, own_row h, own_row h, e, e, flatB_0, flatB_1, List.getElem?_eq_getElem hj]
  exact ⟨rfl, rfl⟩
/-! ### BandHas -/
theorem nums_take {l : Bands} (h : Nums l) (n : Nat) : Nums (l.take n) := fun b hb => h b (List.mem_of_mem_take hb)
end Go.Proofs.YtiicaldnegcdiaaGreat
namespace Go.Proofs.YtiicaldnegcdiaaGreat
set_option linter.unusedSimpArgs false
set_option linter.unusedVariables false
set_option linter.unusedSectionVars false

/-- n, brought between low and high; low, if low is above high -/
def clZ (n lo hi : Int) : Int := if n < lo ∨ hi < lo then lo else if hi < n then hi else n
def clB (b : Int × Int) (f t : Int) : Int × Int := (clZ b.1 f t, clZ b.2 f t)
def edgeB (b : Int × Int) : Int × Int := clB b (-1073741824) 1073741824
theorem clZ_in {n lo hi : Int} (h : lo ≤ hi) : lo ≤ clZ n lo hi ∧ clZ n lo hi ≤ hi := by unfold clZ; split; omega; split <;> omega
theorem clZ_rows {n m lo hi y : Int} : (clZ n lo hi ≤ y ∧ y < clZ m lo hi) ↔ (n ≤ y ∧ y < m ∧ lo ≤ y ∧ y < hi) := by
  unfold clZ
  split
  · split
    · omega
    · split <;> omega
  · split
    · split
      · omega
      · split <;> omega
    · split
      · omega
      · split <;> omega
theorem edge_rows (b : Int × Int) (y : Int) : ((edgeB b).1 ≤ y ∧ y < (edgeB b).2) ↔ (b.1 ≤ y ∧ y < b.2 ∧ -1073741824 ≤ y ∧ y < 1073741824) := clZ_rows
theorem edge_in (b : Int × Int) : -1073741824 ≤ (edgeB b).1 ∧ (edgeB b).1 ≤ 1073741824 ∧ -1073741824 ≤ (edgeB b).2 ∧ (edgeB b).2 ≤ 1073741824 := by
  have h1 := clZ_in (n := b.1) (lo := -1073741824) (hi := 1073741824) (by omega)
  have h2 := clZ_in (n := b.2) (lo := -1073741824) (hi := 1073741824) (by omega)
  exact ⟨h1.1, h1.2, h2.1, h2.2⟩
theorem edge_same {b : Int × Int} (h : -1073741824 ≤ b.1 ∧ b.1 ≤ 1073741824 ∧ -1073741824 ≤ b.2 ∧ b.2 ≤ 1073741824) : edgeB b = b := by
  unfold edgeB clB clZ
  rw [if_neg (by omega), if_neg (by omega), if_neg (by omega), if_neg (by omega)]

/-- all bounds within the edges, and each has rows -/
def Full (L : Bands) : Prop := ∀ b ∈ L, -1073741824 ≤ b.1 ∧ b.1 < b.2 ∧ b.2 ≤ 1073741824
theorem inB_full {L : Bands} (h : Full L) (y : Int) : inB L y = L.any fun b => decide (b.1 ≤ y ∧ y < b.2) := by
  unfold inB
  rw [Bool.eq_iff_iff, List.any_eq_true, List.any_eq_true]
  constructor
  · rintro ⟨b, hb, hy⟩
    have := of_decide_eq_true hy
    exact ⟨b, hb, decide_eq_true ⟨this.1, this.2.1⟩⟩
  · rintro ⟨b, hb, hy⟩
    have := of_decide_eq_true hy
    have := h b hb
    exact ⟨b, hb, decide_eq_true (by omega)⟩

/-! ### bands in order, made one -/
structure MergeInv (L : Bands) (j : Nat) (K : Bands) : Prop where
  len : K.length ≤ j
  good : GoodL K
  rows : ∀ y, inB K y = inB (L.take j) y
  low : ∀ b ∈ K, ∀ (i : Nat) (h : i < L.length), j ≤ i → b.1 ≤ L[i].1
def Sorted (L : Bands) : Prop := ∀ (i j : Nat) (hj : j < L.length) (hij : i < j), (L[i]'(Nat.lt_trans hij hj)).1 ≤ L[j].1
theorem MergeInv.zero (L : Bands) : MergeInv L 0 [] := ⟨Nat.le_refl _, GoodL.nil, fun y => by rw [List.take_zero], by simp⟩
theorem take_one {L : Bands} {j : Nat} (h : j < L.length) (y : Int) : inB (L.take (j + 1)) y = (inB (L.take j) y || decide (L[j].1 ≤ y ∧ y < L[j].2 ∧ -1073741824 ≤ y ∧ y < 1073741824)) := by
  rw [List.take_succ_eq_append_getElem h, inB_append, inB_cons, inB_nil, Bool.or_false]
theorem MergeInv.fresh {L K : Bands} {j : Nat} (m : MergeInv L j K) (hj : j < L.length) (hf : Full L) (hs : Sorted L) (hk : ∀ b ∈ K, b.2 < L[j].1) : MergeInv L (j + 1) (K ++ [L[j]]) := by
  refine ⟨by rw [List.length_append, List.length_singleton]; have := m.len; omega, ⟨?_, ?_⟩, ?_, ?_⟩
  · intro b hb
    rcases List.mem_append.1 hb with hb | hb
    · exact m.good.1 b hb
    · obtain rfl := List.mem_singleton.1 hb
      exact hf _ (List.getElem_mem hj)
  · rw [List.pairwise_append]
    refine ⟨m.good.2, List.pairwise_singleton _ _, fun a ha b hb => ?_⟩
    obtain rfl := List.mem_singleton.1 hb
    exact hk a ha
  · intro y
    rw [inB_append, inB_cons, inB_nil, Bool.or_false, take_one hj, m.rows]
  · intro b hb i hi hji
    rcases List.mem_append.1 hb with hb | hb
    · exact m.low b hb i hi (by omega)
    · obtain rfl := List.mem_singleton.1 hb
      exact hs j i hi (by omega)
theorem MergeInv.more {L K : Bands} {k : Int × Int} {j : Nat} (m : MergeInv L j (K ++ [k])) (hj : j < L.length) (hf : Full L) (hk : L[j].1 ≤ k.2) (v : Int) (hv : k.2 ≤ v ∧ L[j].2 ≤ v ∧ (v ≤ k.2 ∨ v ≤ L[j].2)) : MergeInv L (j + 1) (K ++ [(k.1, v)]) := by
  have hkm : k ∈ K ++ [k] := by simp
  have h0 := m.good.1 k hkm
  have h1 := hf _ (List.getElem_mem hj)
  have h2 := m.low k hkm j hj (Nat.le_refl _)
  obtain ⟨p1, p2, p3⟩ := List.pairwise_append.1 m.good.2
  refine ⟨by have := m.len; rw [List.length_append, List.length_singleton] at *; omega, ⟨?_, ?_⟩, ?_, ?_⟩
  · intro b hb
    rcases List.mem_append.1 hb with hb | hb
    · exact m.good.1 b (List.mem_append_left _ hb)
    · obtain rfl := List.mem_singleton.1 hb
      simp only
      omega
  · rw [List.pairwise_append]
    refine ⟨p1, List.pairwise_singleton _ _, fun a ha b hb => ?_⟩
    obtain rfl := List.mem_singleton.1 hb
    exact p3 a ha k (by simp)
  · intro y
    have := m.rows y
    rw [take_one hj, ← this, inB_append, inB_append, inB_cons, inB_cons, inB_nil, Bool.or_false, Bool.or_false, Bool.or_assoc]
    congr 1
    rw [Bool.eq_iff_iff, Bool.or_eq_true, decide_eq_true_eq, decide_eq_true_eq, decide_eq_true_eq]
    simp only
    omega
  · intro b hb i hi hji
    rcases List.mem_append.1 hb with hb | hb
    · exact m.low b (List.mem_append_left _ hb) i hi (by omega)
    · obtain rfl := List.mem_singleton.1 hb
      exact m.low k hkm i hi (by omega)
/-- behind the last of good bands all lies behind each -/
theorem GoodL.last {K : Bands} {k : Int × Int} (h : GoodL (K ++ [k])) {x : Int} (hx : k.2 < x) : ∀ b ∈ K ++ [k], b.2 < x := by
  intro b hb
  obtain ⟨_, _, p3⟩ := List.pairwise_append.1 h.2
  rcases List.mem_append.1 hb with hb | hb
  · have h1 := p3 b hb k (by simp)
    have h2 := h.1 k (by simp)
    omega
  · obtain rfl := List.mem_singleton.1 hb
    exact hx

/-! ### two good lists, side by side -/
def meetB : Bands → Bands → Bands
  | [], _ => []
  | _ :: _, [] => []
  | a :: A, b :: B => (if (clB a b.1 b.2).1 < (clB a b.1 b.2).2 then [clB a b.1 b.2] else []) ++ (if a.2 < b.2 then meetB A (b :: B) else meetB (a :: A) B)
  termination_by A B => A.length + B.length
theorem meetB_nil (B : Bands) : meetB [] B = [] := by unfold meetB; rfl
theorem meetB_nil2 (A : Bands) : meetB A [] = [] := by cases A <;> (unfold meetB; rfl)
theorem meetB_cons (a b : Int × Int) (A B : Bands) : meetB (a :: A) (b :: B) = (if (clB a b.1 b.2).1 < (clB a b.1 b.2).2 then [clB a b.1 b.2] else []) ++ (if a.2 < b.2 then meetB A (b :: B) else meetB (a :: A) B) := by
  conv => lhs; unfold meetB
theorem one_inB (m : Int × Int) (h : -1073741824 ≤ m.1 ∧ m.2 ≤ 1073741824) (y : Int) : inB (if m.1 < m.2 then [m] else []) y = decide (m.1 ≤ y ∧ y < m.2) := by
  split
  · rw [inB_cons, inB_nil, Bool.or_false, decide_eq_decide]; omega
  · rw [inB_nil]; symm; exact decide_eq_false (by omega)
theorem good_put {m : Int × Int} {R : Bands} (hR : GoodL R) (h : m.1 < m.2 → -1073741824 ≤ m.1 ∧ m.2 ≤ 1073741824 ∧ ∀ y, inB R y = true → m.2 < y) : GoodL ((if m.1 < m.2 then [m] else []) ++ R) := by
  split
  · rename_i hm
    obtain ⟨h1, h2, h3⟩ := h hm
    refine ⟨fun b hb => ?_, List.pairwise_cons.2 ⟨fun c hc => ?_, hR.2⟩⟩
    · rcases List.mem_cons.1 hb with rfl | hb
      · omega
      · exact hR.1 b hb
    · exact h3 c.1 (hR.ahead c hc).1
  · exact hR
theorem meetB_both : ∀ (n : Nat) (A B : Bands), A.length + B.length ≤ n → GoodL A → GoodL B → GoodL (meetB A B) ∧ ∀ y, inB (meetB A B) y = (inB A y && inB B y)
  | _, [], B, _, _, _ => by rw [meetB_nil]; exact ⟨GoodL.nil, fun y => by rw [inB_nil, Bool.false_and]⟩
  | _, a :: A, [], _, _, _ => by rw [meetB_nil2]; exact ⟨GoodL.nil, fun y => by rw [inB_nil, Bool.and_false]⟩
  | 0, a :: A, b :: B, hn, _, _ => by simp at hn
  | n + 1, a :: A, b :: B, hn, hA, hB => by
    have ha := hA.1 a List.mem_cons_self
    have hb := hB.1 b List.mem_cons_self
    have hm : ∀ y, ((clB a b.1 b.2).1 ≤ y ∧ y < (clB a b.1 b.2).2) ↔ (a.1 ≤ y ∧ y < a.2 ∧ b.1 ≤ y ∧ y < b.2) := fun y => clZ_rows
    have i1 : b.1 ≤ (clB a b.1 b.2).1 ∧ (clB a b.1 b.2).1 ≤ b.2 := clZ_in (by omega)
    have i2 : b.1 ≤ (clB a b.1 b.2).2 ∧ (clB a b.1 b.2).2 ≤ b.2 := clZ_in (by omega)
    have hme : -1073741824 ≤ (clB a b.1 b.2).1 ∧ (clB a b.1 b.2).2 ≤ 1073741824 := by omega
    generalize hmm : clB a b.1 b.2 = m at *
    rw [meetB_cons, hmm]
    simp only [List.length_cons] at hn
    by_cases hlt : a.2 < b.2
    · rw [if_pos hlt]
      obtain ⟨g, r⟩ := meetB_both n A (b :: B) (by simp only [List.length_cons]; omega) hA.tail hB
      refine ⟨good_put g fun hf => ⟨hme.1, hme.2, fun y hy => ?_⟩, fun y => ?_⟩
      · rw [r, Bool.and_eq_true] at hy
        have h1 := hA.behind hy.1
        have h2 := (hm (m.2 - 1)).1 (by omega)
        omega
      · rw [inB_append, one_inB _ hme, r, inB_cons a A]
        cases hAy : inB A y with
        | true =>
          have h1 := hA.behind hAy
          have e : decide (m.1 ≤ y ∧ y < m.2) = false := decide_eq_false (fun h => by have := (hm y).1 h; omega)
          rw [e, Bool.false_or, Bool.or_true]
        | false =>
          rw [Bool.false_and, Bool.or_false, Bool.or_false, inB_cons]
          cases hBy : inB B y with
          | true =>
            have h1 := hB.behind hBy
            have e : decide (m.1 ≤ y ∧ y < m.2) = false := decide_eq_false (fun h => by have := (hm y).1 h; omega)
            have e2 : decide (a.1 ≤ y ∧ y < a.2 ∧ -1073741824 ≤ y ∧ y < 1073741824) = false := decide_eq_false (by omega)
            rw [e, e2, Bool.false_and]
          | false =>
            rw [Bool.or_false, ← Bool.decide_and, decide_eq_decide, hm]
            omega
    · rw [if_neg hlt]
      obtain ⟨g, r⟩ := meetB_both n (a :: A) B (by simp only [List.length_cons]; omega) hA hB.tail
      refine ⟨good_put g fun hf => ⟨hme.1, hme.2, fun y hy => ?_⟩, fun y => ?_⟩
      · rw [r, Bool.and_eq_true] at hy
        have h1 := hB.behind hy.2
        omega
      · rw [inB_append, one_inB _ hme, r, inB_cons b B]
        cases hBy : inB B y with
        | true =>
          have h1 := hB.behind hBy
          have e : decide (m.1 ≤ y ∧ y < m.2) = false := decide_eq_false (fun h => by have := (hm y).1 h; omega)
          rw [e, Bool.false_or, Bool.or_true]
        | false =>
          rw [Bool.and_false, Bool.or_false, Bool.or_false, inB_cons]
          cases hAy : inB A y with
          | true =>
            have h1 := hA.behind hAy
            have e : decide (m.1 ≤ y ∧ y < m.2) = false := decide_eq_false (fun h => by have := (hm y).1 h; omega)
            have e2 : decide (b.1 ≤ y ∧ y < b.2 ∧ -1073741824 ≤ y ∧ y < 1073741824) = false := decide_eq_false (by omega)
            rw [e, e2, Bool.and_false]
          | false =>
            rw [Bool.or_false, ← Bool.decide_and, decide_eq_decide, hm]
            omega
theorem meetB_len : ∀ (n : Nat) (A B : Bands), A.length + B.length ≤ n → (meetB A B).length ≤ A.length + B.length
  | _, [], B, _ => by rw [meetB_nil]; simp
  | _, a :: A, [], _ => by rw [meetB_nil2]; simp
  | 0, a :: A, b :: B, hn => by simp at hn
  | n + 1, a :: A, b :: B, hn => by
    simp only [List.length_cons] at hn
    rw [meetB_cons, List.length_append]
    have h1 : (if (clB a b.1 b.2).1 < (clB a b.1 b.2).2 then [clB a b.1 b.2] else []).length ≤ 1 := by split <;> simp
    have h2 := meetB_len n A (b :: B) (by simp only [List.length_cons]; omega)
    have h3 := meetB_len n (a :: A) B (by simp only [List.length_cons]; omega)
    have h4 : (if a.2 < b.2 then meetB A (b :: B) else meetB (a :: A) B).length ≤ A.length + B.length + 1 := by
      simp only [List.length_cons] at h2 h3
      split <;> omega
    simp only [List.length_cons]
    omega

/-! ### gaps -/
def gapsB (f : Int) : Bands → Bands
  | [] => [(f, 1073741824)]
  | b :: T => (f, b.1) :: gapsB b.2 T
theorem gapsB_len (f : Int) : ∀ T : Bands, (gapsB f T).length = T.length + 1
  | [] => rfl
  | b :: T => by unfold gapsB; rw [List.length_cons, gapsB_len, List.length_cons]
theorem gapsB_rows : ∀ (T : Bands) (f : Int), GoodL T → -1073741824 ≤ f ∧ f ≤ 1073741824 → (∀ b ∈ T, f ≤ b.1) → ∀ y, inB (gapsB f T) y = (decide (f ≤ y ∧ y < 1073741824) && !inB T y)
  | [], f, _, hf, _, y => by
    rw [gapsB, inB_cons, inB_nil, Bool.or_false, Bool.not_false, Bool.and_true, decide_eq_decide]
    simp only
    omega
  | b :: T, f, hT, hf, hl, y => by
    have hb := hT.1 b List.mem_cons_self
    have h1 := hl b List.mem_cons_self
    rw [gapsB, inB_cons, gapsB_rows T b.2 hT.tail (by omega) (fun c hc => by have := (List.pairwise_cons.1 hT.2).1 c hc; omega), inB_cons]
    simp only
    cases hTy : inB T y with
    | true =>
      have := hT.behind hTy
      have e : decide (f ≤ y ∧ y < b.1 ∧ -1073741824 ≤ y ∧ y < 1073741824) = false := decide_eq_false (by omega)
      rw [e, Bool.or_true, Bool.not_true, Bool.and_false, Bool.and_false, Bool.or_false]
    | false =>
      rw [Bool.not_false, Bool.and_true, Bool.or_false, Bool.eq_iff_iff]
      simp only [Bool.or_eq_true, Bool.and_eq_true, Bool.not_eq_true', decide_eq_true_eq, decide_eq_false_iff_not]
      omega
theorem gapsB_in : ∀ (T : Bands) (f : Int), GoodL T → -1073741824 ≤ f ∧ f ≤ 1073741824 → ∀ b ∈ gapsB f T, -1073741824 ≤ b.1 ∧ b.1 ≤ 1073741824 ∧ -1073741824 ≤ b.2 ∧ b.2 ≤ 1073741824
  | [], f, _, hf, c, hc => by
    obtain rfl := List.mem_singleton.1 hc
    simp only
    omega
  | b :: T, f, hT, hf, c, hc => by
    have hb := hT.1 b List.mem_cons_self
    rcases List.mem_cons.1 hc with rfl | hc
    · simp only
      omega
    · exact gapsB_in T b.2 hT.tail (by omega) c hc
theorem gaps_not {T l : Bands} (hT : GoodL T) (hr : ∀ y, inB T y = inB l y) (a : Bands) (y : Int) : (inB a y && inB (gapsB (-1073741824) T) y) = (inB a y && !inB l y) := by
  rw [gapsB_rows T _ hT (by omega) (fun b hb => (hT.1 b hb).1), hr]
  cases hay : inB a y with
  | false => rw [Bool.false_and, Bool.false_and]
  | true =>
    obtain ⟨b, hb, h1, h2, h3, h4⟩ := inB_iff.1 hay
    rw [decide_eq_true (by omega), Bool.true_and]

/-! ### how many rows -/
def sumB (T : Bands) : Int := (T.map fun b => b.2 - b.1).sum
theorem sumB_take {T : Bands} {j : Nat} (h : j < T.length) : sumB (T.take (j + 1)) = sumB (T.take j) + (T[j].2 - T[j].1) := by
  unfold sumB
  rw [List.take_succ_eq_append_getElem h, List.map_append, List.sum_append]
  simp
theorem sumB_in {T : Bands} (h : GoodL T) : ∀ j, j ≤ T.length → 0 ≤ sumB (T.take j) ∧ sumB (T.take j) ≤ 2147483648 * (j : Int)
  | 0, _ => by simp [sumB]
  | j + 1, hj => by
    have ih := sumB_in h j (by omega)
    have hb := h.1 _ (List.getElem_mem (show j < T.length by omega))
    rw [sumB_take (by omega)]
    omega

/-! ### whether bands are good, one by one -/
theorem good_one {l : Bands} {j : Nat} (hj : j < l.length) (hg : GoodL (l.take j)) (h1 : -1073741824 ≤ l[j].1 ∧ l[j].1 < l[j].2 ∧ l[j].2 ≤ 1073741824) (h2 : ∀ i (h : i + 1 = j), (l[i]'(by omega)).2 < l[j].1) : GoodL (l.take (j + 1)) := by
  rw [List.take_succ_eq_append_getElem hj]
  refine ⟨fun b hb => ?_, ?_⟩
  · rcases List.mem_append.1 hb with hb | hb
    · exact hg.1 b hb
    · obtain rfl := List.mem_singleton.1 hb
      exact h1
  · rw [List.pairwise_append]
    refine ⟨hg.2, List.pairwise_singleton _ _, fun a ha b hb => ?_⟩
    obtain rfl := List.mem_singleton.1 hb
    cases j with
    | zero => simp at ha
    | succ i =>
      have h3 := h2 i rfl
      have h4 : l.take (i + 1) = l.take i ++ [l[i]] := List.take_succ_eq_append_getElem (by omega)
      rw [h4] at hg ha
      exact hg.last h3 a ha
theorem good_sub {l : Bands} {j : Nat} (hj : j < l.length) (h : GoodL l) : (-1073741824 ≤ l[j].1 ∧ l[j].1 < l[j].2 ∧ l[j].2 ≤ 1073741824) ∧ ∀ i (h : i + 1 = j), (l[i]'(by omega)).2 < l[j].1 := by
  refine ⟨h.1 _ (List.getElem_mem hj), fun i hi => ?_⟩
  exact List.pairwise_iff_getElem.1 h.2 i j (by omega) hj (by omega)
end Go.Proofs.YtiicaldnegcdiaaGreat
namespace Go.Proofs.YtiicaldnegcdiaaGreat
set_option linter.unusedSimpArgs false
set_option linter.unusedVariables false
set_option linter.unusedSectionVars false
open Go.RowKit

theorem clamp_any (n lo hi v : Int) (w : World) (hv : clZ n lo hi = v) :
    Calls Tryz.prog 46 #[.int .i64 n, .int .i64 lo, .int .i64 hi] w fun e w' => e = .returned (.int .i64 v) ∧ w = w' := by
  subst hv
  by_cases h1 : n < lo
  · go_enter Tryz.func46, Tryz.ntmps46
    go_wp2
    go_ret
    exact ⟨ret_int (by unfold clZ; rw [if_pos (.inl h1)]), rfl⟩
  · by_cases h2 : hi < lo
    · go_enter Tryz.func46, Tryz.ntmps46
      go_wp2
      go_ret
      exact ⟨ret_int (by unfold clZ; rw [if_pos (.inr h2)]), rfl⟩
    · by_cases h3 : hi < n
      · go_enter Tryz.func46, Tryz.ntmps46
        go_wp2
        all_goals
          go_ret
          exact ⟨ret_int (by unfold clZ; rw [if_neg (by omega), if_pos (by omega)]), rfl⟩
      · go_enter Tryz.func46, Tryz.ntmps46
        go_wp2
        all_goals
          go_ret
          exact ⟨ret_int (by unfold clZ; rw [if_neg (by omega), if_neg (by omega)]), rfl⟩

theorem filled_any (b1 b2 : Int) (w : World) (c : Bool) (hc : decide (b1 < b2) = c) :
    Calls Tryz.prog 28 #[.agg #[.int .i64 b1, .int .i64 b2]] w fun e w' => e = .returned (.bool c) ∧ AnyLater w w' := by
  have HL := Lib.hid ((AnyLater.refl w).alloc (.cells #[.int .i64 b1, .int .i64 b2] 56))
  have HC := Lib.hid hc
  clear hc
  go_enter Tryz.func28, Tryz.ntmps28
  go_wp2
  go_ret
  exact ⟨ret_bool (by rw [← HC.out]), HL.out⟩

set_option maxRecDepth 100000 in
set_option maxHeartbeats 1600000 in
/-- within: both bounds brought between two others -/
theorem within_any (b1 b2 f t r1 r2 : Int) (w : World) (h1 : clZ b1 f t = r1) (h2 : clZ b2 f t = r2) :
    Calls Tryz.prog 29 #[.agg #[.int .i64 b1, .int .i64 b2], .int .i64 f, .int .i64 t] w fun e w' => e = .returned (.agg #[.int .i64 r1, .int .i64 r2]) ∧ AnyLater w w' := by
  go_enter Tryz.func29, Tryz.ntmps29
  go_wp2_with fail
  first | refine settle_wp (fun wS => AnyLater w wS ∧ wS.heap[w.heap.size]? = some (.cells #[.int .i64 b1, .int .i64 b2] 56) ∧ wS.heap[w.heap.size + 1]? = some (.cells #[.int .i64 0, .int .i64 0] 56)) ?_ ?_ | refine settle_calls (fun wS => AnyLater w wS ∧ wS.heap[w.heap.size]? = some (.cells #[.int .i64 b1, .int .i64 b2] 56) ∧ wS.heap[w.heap.size + 1]? = some (.cells #[.int .i64 0, .int .i64 0] 56)) ?_ ?_
  · refine ⟨?_, ?_, ?_⟩
    · repeat' (first | with_reducible assumption | with_reducible exact AnyLater.refl _ | with_reducible apply AnyLater.setCell | with_reducible apply AnyLater.later | with_reducible apply AnyLater.drewN | with_reducible apply AnyLater.drew | with_reducible apply AnyLater.alloc | ((try simp only [World.size_alloc, World.size_setCell, World.size_drew]); (try dsimp only); omega))
    · ((repeat (first | with_reducible assumption | ((with_reducible apply heap_new); (try simp only [World.size_alloc, World.size_setCell, World.size_drew, World.heap_drewN]); done) | ((with_reducible apply heap_new); (try simp only [World.size_alloc, World.size_setCell, World.size_drew, World.heap_drewN]); omega) | (with_reducible refine heap_old (by (try simp only [World.size_alloc, World.size_setCell, World.size_drew, World.heap_drewN]); omega) ?_) | (with_reducible refine heap_drew ?_) | (with_reducible refine heap_far (by omega) ?_) | (with_reducible apply heap_at))); all_goals rfl)
    · ((repeat (first | with_reducible assumption | ((with_reducible apply heap_new); (try simp only [World.size_alloc, World.size_setCell, World.size_drew, World.heap_drewN]); done) | ((with_reducible apply heap_new); (try simp only [World.size_alloc, World.size_setCell, World.size_drew, World.heap_drewN]); omega) | (with_reducible refine heap_old (by (try simp only [World.size_alloc, World.size_setCell, World.size_drew, World.heap_drewN]); omega) ?_) | (with_reducible refine heap_drew ?_) | (with_reducible refine heap_far (by omega) ?_) | (with_reducible apply heap_at))); all_goals rfl)
  rintro w1 ⟨b_w1, s0_w1, s1_w1⟩
  have a_w1 := b_w1
  have r0_w1 := own_row s0_w1
  have f0_w1 := own_free s0_w1
  have l0_w1 := own_lt s0_w1
  have r1_w1 := own_row s1_w1
  have f1_w1 := own_free s1_w1
  have l1_w1 := own_lt s1_w1
  have z_w1 := b_w1.below.size
  apply wp_region_mem (11) [] (by kernel_rfl) (by kernel_rfl) (by simp)
  case hstab =>
    intro e he v x y hxy hv
    simp only [List.mem_cons, List.not_mem_nil, or_false] at he
  case hlex =>
    intro U
    have q0 := fun (v : Later (later U)) => own_row (any_own ⟨v, rfl⟩ (any_own ⟨U, rfl⟩ s0_w1))
    have q1 := fun (v : Later (later U)) => own_row (any_own ⟨v, rfl⟩ (any_own ⟨U, rfl⟩ s1_w1))
    simp only [absFrom, absOp, idx, List.map_cons, List.map_nil, List.contains_cons, List.contains_nil, Nat.reduceBEq, Bool.or_false, Bool.false_or, Bool.true_or, Bool.or_true, Bool.false_eq_true, Nat.reduceLeDiff, Nat.reduceAdd, if_false, if_true]
    repeat (go_big_quiet_step (first | (go_at_call 46; exact in_later_same (clamp_any _ _ _ _ _ (by assumption)))))
    exact wpQuiet_nil rfl
  case hown =>
    intro e he o ho
    simp only [List.mem_cons, List.not_mem_nil, or_false] at he
  case htail =>
    intro g u hst hne
    have b_w2 : AnyLater w1 (later u) := ⟨u, rfl⟩
    generalize later u = w2 at *
    clear u
    clear hst hne
    simp only [fillAll, Act.put, List.setIfInBounds_toArray, List.set_cons_zero, List.set_cons_succ, List.drop_succ_cons, List.drop_zero]
    have z_w2 := b_w2.below.size
    have a_w2 := a_w1.trans b_w2
    have s0_w2 := any_own b_w2 s0_w1
    have s1_w2 := any_own b_w2 s1_w1
    have r0_w2 := own_row s0_w2
    have f0_w2 := own_free s0_w2
    have l0_w2 := own_lt s0_w2
    have r1_w2 := own_row s1_w2
    have f1_w2 := own_free s1_w2
    have l1_w2 := own_lt s1_w2
    (try clear r0_w1); (try clear f0_w1)
    (try clear r1_w1); (try clear f1_w1)
    go_wp2
    refine bodyPost_ret (v := .agg #[.int .i64 r1, .int .i64 r2]) (by simp [results, Tryz.results29, go_sem, *]) rfl ⟨rfl, ?_⟩
    repeat' (first | with_reducible assumption | with_reducible exact AnyLater.refl _ | with_reducible apply AnyLater.setCell | with_reducible apply AnyLater.later | with_reducible apply AnyLater.drewN | with_reducible apply AnyLater.drew | with_reducible apply AnyLater.alloc | ((try simp only [World.size_alloc, World.size_setCell, World.size_drew]); (try dsimp only); omega))

def cmpZ (x y : Int) : Int := if x < y then -1 else if y < x then 1 else 0
theorem isNaN_any (n : Int) (w : World) : Calls Tryz.prog 78 #[.int .i64 n] w fun e w' => e = .returned (.bool false) ∧ w = w' := by
  have h : (n != n) = false := by simp
  go_enter Tryz.func78, Tryz.ntmps78
  go_wp2
  go_ret
  exact ⟨ret_bool (by first | rfl | simp), rfl⟩
theorem compare_any (x y : Int) (w : World) : Calls Tryz.prog 62 #[.int .i64 x, .int .i64 y] w fun e w' => e = .returned (.int .i64 (cmpZ x y)) ∧ w = w' := by
  by_cases h1 : x < y
  · go_enter Tryz.func62, Tryz.ntmps62
    go_wp2_with (go_at_call 78; refine (isNaN_any _ _).mono ?_; rintro e w' ⟨rfl, rfl⟩)
    go_ret
    exact ⟨ret_int (by unfold cmpZ; rw [if_pos (by omega)]), rfl⟩
  · by_cases h2 : y < x
    · go_enter Tryz.func62, Tryz.ntmps62
      go_wp2_with (go_at_call 78; refine (isNaN_any _ _).mono ?_; rintro e w' ⟨rfl, rfl⟩)
      go_ret
      exact ⟨ret_int (by unfold cmpZ; rw [if_neg (by omega), if_pos (by omega)]), rfl⟩
    · go_enter Tryz.func62, Tryz.ntmps62
      go_wp2_with (go_at_call 78; refine (isNaN_any _ _).mono ?_; rintro e w' ⟨rfl, rfl⟩)
      go_ret
      exact ⟨ret_int (by unfold cmpZ; rw [if_neg (by omega), if_neg (by omega)]), rfl⟩

/-! ### closures -/
/-- Tidy's: the band itself -/
theorem same_clo (b1 b2 : Int) (w : World) :
    Calls Tryz.prog 41 #[.agg #[.int .i64 b1, .int .i64 b2]] w fun e w' => e = .returned (.agg #[.int .i64 b1, .int .i64 b2]) ∧ AnyLater w w' := by
  go_enter Tryz.func41, Tryz.ntmps41
  go_wp2
  refine bodyPost_ret (v := .agg #[.int .i64 b1, .int .i64 b2]) (by simp [results, Tryz.results41, go_sem, *]) rfl ⟨rfl, ?_⟩
  repeat' (first | with_reducible assumption | with_reducible exact AnyLater.refl _ | with_reducible apply AnyLater.setCell | with_reducible apply AnyLater.later | with_reducible apply AnyLater.drewN | with_reducible apply AnyLater.drew | with_reducible apply AnyLater.alloc | ((try simp only [World.size_alloc, World.size_setCell, World.size_drew]); (try dsimp only); omega))
def hasOne (b : Int × Int) (y : Int) : Bool := decide ((edgeB b).1 ≤ y ∧ y < (edgeB b).2)
/-- Has's: whether a band has the row that lies in the variable p -/
theorem has_clo (b1 b2 y : Int) (p : Nat) (c : Bool) (w : World) (hp : w.heap[p]? = some (.cells #[.int .i64 y] 3)) (hc : hasOne (b1, b2) y = c) :
    Calls Tryz.prog 34 #[.agg #[.int .i64 b1, .int .i64 b2], .pointer (some ⟨p, 0, none⟩)] w fun e w' => e = .returned (.bool c) ∧ AnyLater w w' := by
  have s9_w := hp
  have r9_w := own_row hp
  have HC := Lib.hid hc
  clear hc hp
  obtain ⟨r1, hr1⟩ : ∃ r, clZ b1 (-1073741824) 1073741824 = r := ⟨_, rfl⟩
  obtain ⟨r2, hr2⟩ : ∃ r, clZ b2 (-1073741824) 1073741824 = r := ⟨_, rfl⟩
  have HR := Lib.hid (And.intro hr1 hr2)
  have HO : Hid (c = decide (r1 ≤ y ∧ y < r2)) := Lib.hid (by rw [← HC.out]; unfold hasOne edgeB clB; rw [hr1, hr2])
  clear hr1 hr2
  go_enter Tryz.func34, Tryz.ntmps34
  go_wp2_with fail
  first | refine settle_wp (fun wS => AnyLater w wS ∧ wS.heap[w.heap.size]? = some (.cells #[.int .i64 b1, .int .i64 b2] 56)) ?_ ?_ | refine settle_calls (fun wS => AnyLater w wS ∧ wS.heap[w.heap.size]? = some (.cells #[.int .i64 b1, .int .i64 b2] 56)) ?_ ?_
  · refine ⟨?_, ?_⟩
    · repeat' (first | with_reducible assumption | with_reducible exact AnyLater.refl _ | with_reducible apply AnyLater.setCell | with_reducible apply AnyLater.later | with_reducible apply AnyLater.drewN | with_reducible apply AnyLater.drew | with_reducible apply AnyLater.alloc | ((try simp only [World.size_alloc, World.size_setCell, World.size_drew]); (try dsimp only); omega))
    · ((repeat (first | with_reducible assumption | ((with_reducible apply heap_new); (try simp only [World.size_alloc, World.size_setCell, World.size_drew, World.heap_drewN]); done) | ((with_reducible apply heap_new); (try simp only [World.size_alloc, World.size_setCell, World.size_drew, World.heap_drewN]); omega) | (with_reducible refine heap_old (by (try simp only [World.size_alloc, World.size_setCell, World.size_drew, World.heap_drewN]); omega) ?_) | (with_reducible refine heap_drew ?_) | (with_reducible refine heap_far (by omega) ?_) | (with_reducible apply heap_at))); all_goals rfl)
  rintro w1 ⟨b_w1, s0_w1⟩
  have a_w1 := b_w1
  have r0_w1 := own_row s0_w1
  have f0_w1 := own_free s0_w1
  have l0_w1 := own_lt s0_w1
  have z_w1 := b_w1.below.size
  have s9_w1 := any_own b_w1 s9_w
  clear r9_w
  go_wp2_with fail
  refine (within_any b1 b2 _ _ r1 r2 w1 HR.out.1 HR.out.2).mono ?_
  rintro e w2 ⟨rfl, b_w2⟩
  have s0_w2 := any_own b_w2 s0_w1
  have s9_w2 := any_own b_w2 s9_w1
  have a_w2 := a_w1.trans b_w2
  have hne : p ≠ w.heap.size := by have := own_lt s9_w; omega
  have r0_w2 := own_row s0_w2
  have f0_w2 := own_free s0_w2
  have r9_w2 := own_row s9_w2
  by_cases h1 : r1 ≤ y
  · by_cases h2 : y < r2
    · go_wp2
      go_ret
      exact ⟨ret_bool (by rw [HO.out]; first | rfl | (rw [decide_eq_decide]; omega) | (symm; exact decide_eq_false (by omega)) | (symm; exact decide_eq_true (by omega))), by repeat' (first | with_reducible assumption | with_reducible exact AnyLater.refl _ | with_reducible apply AnyLater.setCell | with_reducible apply AnyLater.later | with_reducible apply AnyLater.drewN | with_reducible apply AnyLater.drew | with_reducible apply AnyLater.alloc | ((try simp only [World.size_alloc, World.size_setCell, World.size_drew]); (try dsimp only); omega))⟩
    · go_wp2
      go_ret
      exact ⟨ret_bool (by rw [HO.out]; first | rfl | (rw [decide_eq_decide]; omega) | (symm; exact decide_eq_false (by omega)) | (symm; exact decide_eq_true (by omega))), by repeat' (first | with_reducible assumption | with_reducible exact AnyLater.refl _ | with_reducible apply AnyLater.setCell | with_reducible apply AnyLater.later | with_reducible apply AnyLater.drewN | with_reducible apply AnyLater.drew | with_reducible apply AnyLater.alloc | ((try simp only [World.size_alloc, World.size_setCell, World.size_drew]); (try dsimp only); omega))⟩
  · go_wp2
    go_ret
    exact ⟨ret_bool (by rw [HO.out]; first | rfl | (rw [decide_eq_decide]; omega) | (symm; exact decide_eq_false (by omega)) | (symm; exact decide_eq_true (by omega))), by repeat' (first | with_reducible assumption | with_reducible exact AnyLater.refl _ | with_reducible apply AnyLater.setCell | with_reducible apply AnyLater.later | with_reducible apply AnyLater.drewN | with_reducible apply AnyLater.drew | with_reducible apply AnyLater.alloc | ((try simp only [World.size_alloc, World.size_setCell, World.size_drew]); (try dsimp only); omega))⟩
end Go.Proofs.YtiicaldnegcdiaaGreat
namespace Go.Proofs.YtiicaldnegcdiaaGreat
set_option linter.unusedSimpArgs false
set_option linter.unusedVariables false
set_option linter.unusedSectionVars false
open Go.RowKit

/-! ### a block's cells as bands -/
def CellsB (cur : Array Value) (K : Bands) : Prop := ∀ (i : Nat) (h : i < K.length), cur[i * 2]? = some (.int .i64 K[i].1) ∧ cur[i * 2 + 1]? = some (.int .i64 K[i].2)
theorem CellsB.take {cur : Array Value} {K : Bands} (h : CellsB cur K) (hs : K.length * 2 ≤ cur.size) : cur.toList.take (K.length * 2) = flatB K := by
  apply List.ext_getElem?
  intro j
  by_cases hj : j < K.length * 2
  · rw [List.getElem?_take_of_lt hj, Array.getElem?_toList]
    have hk : j / 2 < K.length := by omega
    rcases Nat.mod_two_eq_zero_or_one j with hm | hm
    · have e : j = j / 2 * 2 := by omega
      rw [e, (h _ hk).1, flatB_0, List.getElem?_eq_getElem hk]; rfl
    · have e : j = j / 2 * 2 + 1 := by omega
      rw [e, (h _ hk).2, flatB_1, List.getElem?_eq_getElem hk]; rfl
  · rw [List.getElem?_eq_none (by rw [List.length_take]; omega), List.getElem?_eq_none (by rw [flatB_length]; omega)]
theorem CellsB.of_take {cur : Array Value} {K : Bands} (h : cur.toList.take (K.length * 2) = flatB K) : CellsB cur K := by
  intro i hi
  have e : ∀ k, k < K.length * 2 → cur[k]? = (flatB K)[k]? := fun k hk => by
    rw [← h, List.getElem?_take_of_lt hk]; simp
  rw [e _ (by omega), e _ (by omega), flatB_0, flatB_1, List.getElem?_eq_getElem hi]
  exact ⟨rfl, rfl⟩
/-- a row of bands at a known block -/
theorem OB.of_block {w : World} {B g cap : Nat} {cur : Array Value} {K : Bands} (hB : B ≤ g) (hg : w.heap[g]? = some (.cells cur 56)) (hk : K.length ≤ cap) (hm : cap ≤ maxLen) (hs : cur.size = cap * 2) (hc : CellsB cur K) : OB w B (.slice (some ⟨g, 0, none⟩) K.length cap) K :=
  ⟨flatB_length K, .inr ⟨g, cap, cur, rfl, hB, hg, hk, hm, hs, hc.take (by rw [hs]; omega)⟩⟩

/-- append where there is room: the new cells are written in place -/
theorem wpList_append_fit {P : Program} (w : World) {ops : Array Oper} {rest : List Oper} {o : Oper} {a : Act} {Q : Exit → Act → World → Prop} (hgd : o.guard = none) (s x : Operand) (t : TypeId)
    (ho : o.op = .call { callee := .builtin .append, args := #[s, x], argTypes := #[t, t] }) (e : TypeId) (i : TypeInfo) (size : Nat) (ht : P.underlying t = some (.slice e)) (hi : P.info? e = some i) (hsize : i.size = size)
    (g n cap : Nat) (cur : Array Value) (hs : a.eval s = .slice (some ⟨g, 0, none⟩) n cap) (hg : w.heap[g]? = some (.cells cur e))
    (ad : Addr) (m c : Nat) (news : List Value) (hx : a.eval x = .slice (some ad) m c) (hl : news.length = m * size) (hnews : ∀ j u, news[j]? = some u → w.cell? (ad.add j) = some u) (h1 : ∀ u ∈ news, u.oneCell' = true)
    (hroom : n + m ≤ cap) (hfit : n * size + news.length ≤ cur.size)
    (h : ∀ (w' : World) (cur' : Array Value), w'.heap[g]? = some (.cells cur' e) → cur'.size = cur.size → (∀ j, j < news.length → cur'[n * size + j]? = news[j]?) → (∀ j, j < n * size ∨ n * size + news.length ≤ j → cur'[j]? = cur[j]?) →
      (∀ W, AnyLater W w → W.heap.size ≤ g → AnyLater W w') → wpList P ops Q rest (a.put o.dst (.slice (some ⟨g, 0, none⟩) (n + m) cap)) w') : wpList P ops Q (o :: rest) a w := by
  subst hsize
  have hr := run_append_room (P := P) w t o.type e i ht hi g n cap cur hg ad m c news hl hnews h1 hroom hfit
  refine wpList_plain hgd fun K hK => ?_
  unfold Oper.wp execOp
  simp only [ho, resolve, invoke, builtin, Sem.run_bind, Sem.run_pure, Result.andThen_ok, List.map_toArray, List.map_cons, List.map_nil, hs, hx, hr]
  have hlen : (cur.toList.take (n * i.size)).length = n * i.size := by rw [List.length_take, Array.length_toList]; omega
  refine hK _ _ (h _ _ (setRow_heap w g cur _ e _ hg) ?_ ?_ ?_ ?_)
  · simp only [List.size_toArray, List.length_append, List.length_take, List.length_drop, Array.length_toList]; omega
  · intro j hj
    rw [List.getElem?_toArray, List.getElem?_append_left (by rw [List.length_append, hlen]; omega), List.getElem?_append_right (by rw [hlen]; omega), hlen, Nat.add_sub_cancel_left]
  · intro j hj
    rw [List.getElem?_toArray]
    rcases hj with hj | hj
    · rw [List.getElem?_append_left (by rw [List.length_append, hlen]; omega), List.getElem?_append_left (by rw [hlen]; omega), List.getElem?_take_of_lt hj, Array.getElem?_toList]
    · rw [List.getElem?_append_right (by rw [List.length_append, hlen]; omega), List.length_append, hlen, List.getElem?_drop, Array.getElem?_toList]
      congr 1; omega
  · intro W hW hWg
    exact .of ⟨hW.below.os, hW.below.tape, hW.below.output, by simpa [World.setRow] using hW.below.size, fun k hk => (setRow_other w g k _ (by omega)).trans (hW.below.block k hk)⟩

def hiZ (p q : Int) : Int := if q < p then p else q
theorem run_maxZ {P : Program} (w : World) (ts : Array TypeId) (t : TypeId) (p q : Int) : (Builtin.max_ ts t #[.int .i64 p, .int .i64 q]).run P w = .ok (.int .i64 (hiZ p q)) w := by
  rw [run_max_int2]; unfold hiZ; split <;> split <;> first | rfl | omega | (congr 2; omega)
theorem hiZ_in (p q : Int) : p ≤ hiZ p q ∧ q ≤ hiZ p q ∧ (hiZ p q ≤ p ∨ hiZ p q ≤ q) := by unfold hiZ; split <;> omega

/-- what is known of the block at round j -/
structure MergeAt (L : Bands) (j : Nat) (K : Bands) (cur : Array Value) : Prop where
  inv : MergeInv L j K
  kept : CellsB cur K
  rest : ∀ (i : Nat) (h : i < L.length), j ≤ i → cur[i * 2]? = some (.int .i64 L[i].1) ∧ cur[i * 2 + 1]? = some (.int .i64 L[i].2)
theorem MergeAt.fresh {L K : Bands} {j : Nat} {cur cur' : Array Value} (m : MergeAt L j K cur) (hj : j < L.length) (hf : Full L) (hs : Sorted L) (hk : ∀ b ∈ K, b.2 < L[j].1)
    (h0 : cur'[K.length * 2]? = some (.int .i64 L[j].1)) (h1 : cur'[K.length * 2 + 1]? = some (.int .i64 L[j].2)) (h2 : ∀ i, i < K.length * 2 ∨ K.length * 2 + 2 ≤ i → cur'[i]? = cur[i]?) : MergeAt L (j + 1) (K ++ [L[j]]) cur' := by
  refine ⟨m.inv.fresh hj hf hs hk, fun i hi => ?_, fun i hi hji => ?_⟩
  · rw [List.length_append, List.length_singleton] at hi
    by_cases e : i < K.length
    · rw [h2 _ (.inl (by omega)), h2 _ (.inl (by omega)), List.getElem_append_left e]
      exact m.kept i e
    · obtain rfl : i = K.length := by omega
      rw [h0, h1, List.getElem_append_right (Nat.le_refl _)]
      simp
  · have := m.inv.len
    rw [h2 _ (.inr (by omega)), h2 _ (.inr (by omega))]
    exact m.rest i hi (by omega)
theorem MergeAt.more {L K : Bands} {k : Int × Int} {j : Nat} {cur : Array Value} (m : MergeAt L j (K ++ [k]) cur) (hj : j < L.length) (hf : Full L) (hk : L[j].1 ≤ k.2) : MergeAt L (j + 1) (K ++ [(k.1, hiZ k.2 L[j].2)]) (cur.setIfInBounds (K.length * 2 + 1) (.int .i64 (hiZ k.2 L[j].2))) := by
  have hl := m.inv.len
  rw [List.length_append, List.length_singleton] at hl
  have hin := (m.kept K.length (by simp)).2
  have hlt : K.length * 2 + 1 < cur.size := by
    rcases Nat.lt_or_ge (K.length * 2 + 1) cur.size with h | h
    · exact h
    · rw [Array.getElem?_eq_none h] at hin; cases hin
  refine ⟨m.inv.more hj hf hk _ (hiZ_in _ _), fun i hi => ?_, fun i hi hji => ?_⟩
  · rw [List.length_append, List.length_singleton] at hi
    by_cases e : i < K.length
    · rw [Array.getElem?_setIfInBounds_ne (by omega), Array.getElem?_setIfInBounds_ne (by omega), List.getElem_append_left e]
      have := m.kept i (by rw [List.length_append]; omega)
      rwa [List.getElem_append_left e] at this
    · obtain rfl : i = K.length := by omega
      have := m.kept K.length (by simp)
      rw [Array.getElem?_setIfInBounds_ne (by omega), Array.getElem?_setIfInBounds_self_of_lt hlt, List.getElem_append_right (Nat.le_refl _)]
      rw [List.getElem_append_right (Nat.le_refl _)] at this
      simp only [Nat.sub_self, List.getElem_cons_zero] at this ⊢
      exact ⟨this.1, trivial⟩
  · rw [Array.getElem?_setIfInBounds_ne (by omega), Array.getElem?_setIfInBounds_ne (by omega)]
    exact m.rest i hi (by omega)
end Go.Proofs.YtiicaldnegcdiaaGreat
namespace Go.Proofs.YtiicaldnegcdiaaGreat
set_option linter.unusedSimpArgs false
set_option linter.unusedVariables false
set_option linter.unusedSectionVars false
open Go.RowKit

theorem last_split (K : Bands) : K = [] ∨ ∃ K0 k, K = K0 ++ [k] := by
  rcases List.eq_nil_or_concat K with h | ⟨K0, k, h⟩
  · exact .inl h
  · exact .inr ⟨K0, k, by rw [h, List.concat_eq_append]⟩
set_option maxRecDepth 100000 in
set_option maxHeartbeats 3200000 in
theorem merged_block (gb n cap : Nat) (cur0 : Array Value) (L : Bands) (W w : World) (hW : AnyLater W w) (hWg : W.heap.size ≤ gb) (hg : w.heap[gb]? = some (.cells cur0 56)) (hL : L.length = n) (hn : n ≤ 100000) (hcap : n ≤ cap) (hm : cap ≤ maxLen) (hsz : cur0.size = cap * 2)
    (hc : CellsB cur0 L) (hF : Full L) (hS : Sorted L) :
    Calls Tryz.prog 63 #[.slice (some ⟨gb, 0, none⟩) n cap] w fun e w' => ∃ v K, e = .returned v ∧ AnyLater W w' ∧ OB w' W.heap.size v K ∧ GoodL K ∧ ∀ y, inB K y = inB L y := by
  obtain ⟨i0, hi0, hz0, hz1, hz2⟩ := info_parts info_band
  have HL := Lib.hid hL
  have HN := Lib.hid (And.intro hW (And.intro hWg (And.intro hg (And.intro hsz hc))))
  have HF := Lib.hid (And.intro hF (And.intro hS hm))
  have hmx := run_maxZ (P := Tryz.prog)
  clear hL hW hg hsz hc hF hS hm
  go_enter Tryz.func63, Tryz.ntmps63
  go_wp2_with fail
  go_loopg [3, 11] n (fun k v i wr => ∃ (j : Nat) (K : Bands) (cur : Array Value), k = n - j ∧ j ≤ n ∧ i = .int .i64 j ∧ v = .slice (some ⟨gb, 0, none⟩) K.length cap ∧ AnyLater W wr ∧ wr.heap[gb]? = some (.cells cur 56) ∧ cur.size = cap * 2 ∧ MergeAt L j K cur)
  case atStart =>
    obtain ⟨h1, h2, h3, h4, h5⟩ := HN.out
    exact ⟨0, [], cur0, by omega, by omega, rfl, rfl, h1, h3, h4, ⟨MergeInv.zero L, fun i hi => by simp at hi, fun i hi _ => h5 i hi⟩⟩
  case round =>
    obtain ⟨j, K, cur, hk, hj, rfl, rfl, a_wr, s0_wr, hsz, hM⟩ := hrel
    have HM := Lib.hid hM
    have HZ := Lib.hid hsz
    clear hM hsz
    by_cases hlt : j < n
    · have lj : j < L.length := by rw [HL.out]; exact hlt
      obtain ⟨c0, c1⟩ := HM.out.rest j lj (Nat.le_refl _)
      have r0_wr := own_row s0_wr
      have f0_wr := own_free s0_wr
      have l0_wr := own_lt s0_wr
      have HK : Hid (K.length ≤ j) := Lib.hid HM.out.inv.len
      have HR : Hid (∀ b ∈ K, b.2 < L[j].1 → True) := Lib.hid (fun _ _ _ => trivial)
      have HX := Lib.hid (rfl : L[j] = L[j])
      obtain ⟨x, hx⟩ : ∃ x, L[j] = x := ⟨_, rfl⟩
      obtain ⟨f, t⟩ := x
      have HE := Lib.hid hx
      rw [hx] at c0 c1
      simp only at c0 c1
      clear hx HX HR
      rcases last_split K with rfl | ⟨K0, k, rfl⟩
      · have HF1 : Hid (∀ cur', cur'[0 * 2]? = some (.int .i64 f) → cur'[0 * 2 + 1]? = some (.int .i64 t) → (∀ i, i < 0 * 2 ∨ 0 * 2 + 2 ≤ i → cur'[i]? = cur[i]?) → MergeAt L (j + 1) [(f, t)] cur') := Lib.hid (fun cur' q0 q1 q2 => by
          have q := HM.out.fresh lj HF.out.1 HF.out.2.1 (cur' := cur') (by simp) (by rw [HE.out]; exact q0) (by rw [HE.out]; exact q1) q2
          rw [HE.out] at q
          exact q)
        simp only [List.length_nil]
        go_wp2_with fail
        first | refine settle_wp (fun wS => AnyLater wr wS ∧ wS.heap[wr.heap.size]? = some (.cells #[.int .i64 f, .int .i64 t] 56)) ?_ ?_ | refine settle_calls (fun wS => AnyLater wr wS ∧ wS.heap[wr.heap.size]? = some (.cells #[.int .i64 f, .int .i64 t] 56)) ?_ ?_
        · refine ⟨?_, ?_⟩
          · repeat' (first | with_reducible assumption | with_reducible exact AnyLater.refl _ | with_reducible apply AnyLater.setCell | with_reducible apply AnyLater.later | with_reducible apply AnyLater.drewN | with_reducible apply AnyLater.drew | with_reducible apply AnyLater.alloc | ((try simp only [World.size_alloc, World.size_setCell, World.size_drew]); (try dsimp only); omega))
          · ((repeat (first | with_reducible assumption | ((with_reducible apply heap_new); (try simp only [World.size_alloc, World.size_setCell, World.size_drew, World.heap_drewN]); done) | ((with_reducible apply heap_new); (try simp only [World.size_alloc, World.size_setCell, World.size_drew, World.heap_drewN]); omega) | (with_reducible refine heap_old (by (try simp only [World.size_alloc, World.size_setCell, World.size_drew, World.heap_drewN]); omega) ?_) | (with_reducible refine heap_drew ?_) | (with_reducible refine heap_far (by omega) ?_) | (with_reducible apply heap_at))); all_goals rfl)
        rintro w1 ⟨b_w1, s1_w1⟩
        have a_w1 := a_wr.trans b_w1
        have s0_w1 := any_own b_w1 s0_wr
        have r0_w1 := own_row s0_w1
        have f0_w1 := own_free s0_w1
        have l0_w1 := own_lt s0_w1
        (try clear r0_wr); (try clear f0_wr)
        have r1_w1 := own_row s1_w1
        have f1_w1 := own_free s1_w1
        have l1_w1 := own_lt s1_w1
        have z_w1 := b_w1.below.size
        apply wp_region_mem (13) [] (by kernel_rfl) (by kernel_rfl) (by simp)
        case hstab =>
          intro e he v x y hxy hv
          simp only [List.mem_cons, List.not_mem_nil, or_false] at he
        case hlex =>
          intro U
          have q0 := fun (v : Later (later U)) => own_row (any_own ⟨v, rfl⟩ (any_own ⟨U, rfl⟩ s0_w1))
          have q1 := fun (v : Later (later U)) => own_row (any_own ⟨v, rfl⟩ (any_own ⟨U, rfl⟩ s1_w1))
          simp only [absFrom, absOp, idx, List.map_cons, List.map_nil, List.contains_cons, List.contains_nil, Nat.reduceBEq, Bool.or_false, Bool.false_or, Bool.true_or, Bool.or_true, Bool.false_eq_true, Nat.reduceLeDiff, Nat.reduceAdd, if_false, if_true]
          repeat (go_big_quiet_step (first | fail))
          exact wpQuiet_nil rfl
        case hown =>
          intro e he o ho
          simp only [List.mem_cons, List.not_mem_nil, or_false] at he
        case htail =>
          intro g u hst hne
          have b_w2 : AnyLater w1 (later u) := ⟨u, rfl⟩
          generalize later u = w2 at *
          clear u
          clear hst hne
          simp only [fillAll, Act.put, List.setIfInBounds_toArray, List.set_cons_zero, List.set_cons_succ, List.drop_succ_cons, List.drop_zero]
          have z_w2 := b_w2.below.size
          have a_w2 := a_w1.trans b_w2
          have s0_w2 := any_own b_w2 s0_w1
          have s1_w2 := any_own b_w2 s1_w1
          have r0_w2 := own_row s0_w2
          have f0_w2 := own_free s0_w2
          have l0_w2 := own_lt s0_w2
          have r1_w2 := own_row s1_w2
          have f1_w2 := own_free s1_w2
          have l1_w2 := own_lt s1_w2
          (try clear r0_w1); (try clear f0_w1)
          (try clear r1_w1); (try clear f1_w1)
          have HB := Lib.hid (And.intro (heap_old (o := .cells #[.int .i64 f, .int .i64 t] 56) l0_w2 s0_w2) (World.news_of_block (w := w2.alloc (.cells #[.int .i64 f, .int .i64 t] 56)) (cs := #[.int .i64 f, .int .i64 t]) (t := 56) (fr := (0, 0)) (heap_new rfl)))
          have HQ : Hid (0 + 1 ≤ cap ∧ 0 * 2 + 2 ≤ cur.size) := Lib.hid ⟨by omega, by rw [HZ.out]; omega⟩
          go_wp2_with (at_builtin; refine wpList_append_fit _ rfl _ _ 34 rfl 56 i0 2 Tryz.underlying34 hi0 hz1 gb 0 cap cur rfl HB.out.1 ⟨w2.heap.size, 0, none⟩ 1 1 [.int .i64 f, .int .i64 t] rfl rfl HB.out.2 (by simp [Value.oneCell']) HQ.out.1 HQ.out.2 ?_; intro w3 cur3 p1 p2 p3 p4 p5; have S : Hid (AnyLater W w3 ∧ w3.heap[gb]? = some (.cells cur3 56) ∧ cur3.size = cap * 2 ∧ MergeAt L (j + 1) [(f, t)] cur3) := Lib.hid ⟨p5 W (a_w2.alloc _) hWg, p1, p2.trans HZ.out, HF1.out cur3 (p3 0 (by simp)) (p3 1 (by simp)) (fun i hi => p4 i hi)⟩; clear p1 p2 p3 p4 p5)
          go_roundg (n - (j + 1))
          case measure => omega
          case rel => exact ⟨j + 1, [(f, t)], cur3, rfl, hlt, by go_num, rfl, S.out⟩
      · obtain ⟨kf, kt⟩ := k
        have e : (K0 ++ [(kf, kt)]).length = K0.length + 1 := by simp
        have d := HM.out.kept K0.length (by rw [e]; omega)
        rw [List.getElem_append_right (Nat.le_refl _)] at d
        simp only [Nat.sub_self, List.getElem_cons_zero] at d
        obtain ⟨d0, d1⟩ := d
        have HS : Hid (f ≤ kt → MergeAt L (j + 1) (K0 ++ [(kf, hiZ kt t)]) (cur.setIfInBounds (K0.length * 2 + 1) (.int .i64 (hiZ kt t)))) := Lib.hid (fun h => by
          have q := HM.out.more lj HF.out.1 (by rw [HE.out]; exact h)
          rw [HE.out] at q
          exact q)
        have HF2 : Hid (kt < f → ∀ cur', cur'[(K0.length + 1) * 2]? = some (.int .i64 f) → cur'[(K0.length + 1) * 2 + 1]? = some (.int .i64 t) → (∀ i, i < (K0.length + 1) * 2 ∨ (K0.length + 1) * 2 + 2 ≤ i → cur'[i]? = cur[i]?) → MergeAt L (j + 1) (K0 ++ [(kf, kt)] ++ [(f, t)]) cur') := Lib.hid (fun h cur' q0 q1 q2 => by
          have q := HM.out.fresh lj HF.out.1 HF.out.2.1 (cur' := cur') (HM.out.inv.good.last (by rw [HE.out]; exact h)) (by rw [HE.out, e]; exact q0) (by rw [HE.out, e]; exact q1) (by rw [e]; exact q2)
          rw [HE.out] at q
          exact q)
        have HK2 : Hid (K0.length + 1 ≤ j) := Lib.hid (by have := HK.out; rw [e] at this; exact this)
        have HLen : Hid (∀ z : Int × Int, (K0 ++ [z]).length = K0.length + 1) := Lib.hid (by intro z; simp)
        have HLen2 : Hid ((K0 ++ [(kf, kt)] ++ [(f, t)]).length = K0.length + 1 + 1) := Lib.hid (by simp)
        rw [e]
        clear e HM HK
        have hD : ∀ m, K0.length = m → m = K0.length := fun _ h => h.symm
        generalize K0.length = m at *
        clear hD
        have lm : m + 1 ≤ j := HK2.out
        have lm2 : m < 100000 := by omega
        by_cases h : f ≤ kt
        · go_wp2_with fail
          first | refine settle_wp (fun wS => AnyLater wr wS ∧ wS.heap[wr.heap.size]? = some (.cells #[.int .i64 f, .int .i64 t] 56)) ?_ ?_ | refine settle_calls (fun wS => AnyLater wr wS ∧ wS.heap[wr.heap.size]? = some (.cells #[.int .i64 f, .int .i64 t] 56)) ?_ ?_
          · refine ⟨?_, ?_⟩
            · repeat' (first | with_reducible assumption | with_reducible exact AnyLater.refl _ | with_reducible apply AnyLater.setCell | with_reducible apply AnyLater.later | with_reducible apply AnyLater.drewN | with_reducible apply AnyLater.drew | with_reducible apply AnyLater.alloc | ((try simp only [World.size_alloc, World.size_setCell, World.size_drew]); (try dsimp only); omega))
            · ((repeat (first | with_reducible assumption | ((with_reducible apply heap_new); (try simp only [World.size_alloc, World.size_setCell, World.size_drew, World.heap_drewN]); done) | ((with_reducible apply heap_new); (try simp only [World.size_alloc, World.size_setCell, World.size_drew, World.heap_drewN]); omega) | (with_reducible refine heap_old (by (try simp only [World.size_alloc, World.size_setCell, World.size_drew, World.heap_drewN]); omega) ?_) | (with_reducible refine heap_drew ?_) | (with_reducible refine heap_far (by omega) ?_) | (with_reducible apply heap_at))); all_goals rfl)
          rintro w1 ⟨b_w1, s1_w1⟩
          have a_w1 := a_wr.trans b_w1
          have s0_w1 := any_own b_w1 s0_wr
          have r0_w1 := own_row s0_w1
          have f0_w1 := own_free s0_w1
          have l0_w1 := own_lt s0_w1
          (try clear r0_wr); (try clear f0_wr)
          have r1_w1 := own_row s1_w1
          have f1_w1 := own_free s1_w1
          have l1_w1 := own_lt s1_w1
          have z_w1 := b_w1.below.size
          apply wp_region_mem (13) [] (by kernel_rfl) (by kernel_rfl) (by simp)
          case hstab =>
            intro e he v x y hxy hv
            simp only [List.mem_cons, List.not_mem_nil, or_false] at he
          case hlex =>
            intro U
            have q0 := fun (v : Later (later U)) => own_row (any_own ⟨v, rfl⟩ (any_own ⟨U, rfl⟩ s0_w1))
            have q1 := fun (v : Later (later U)) => own_row (any_own ⟨v, rfl⟩ (any_own ⟨U, rfl⟩ s1_w1))
            simp only [absFrom, absOp, idx, List.map_cons, List.map_nil, List.contains_cons, List.contains_nil, Nat.reduceBEq, Bool.or_false, Bool.false_or, Bool.true_or, Bool.or_true, Bool.false_eq_true, Nat.reduceLeDiff, Nat.reduceAdd, if_false, if_true]
            repeat (go_big_quiet_step (first | fail))
            exact wpQuiet_nil rfl
          case hown =>
            intro e he o ho
            simp only [List.mem_cons, List.not_mem_nil, or_false] at he
          case htail =>
            intro g u hst hne
            have b_w2 : AnyLater w1 (later u) := ⟨u, rfl⟩
            generalize later u = w2 at *
            clear u
            clear hst hne
            simp only [fillAll, Act.put, List.setIfInBounds_toArray, List.set_cons_zero, List.set_cons_succ, List.drop_succ_cons, List.drop_zero]
            have z_w2 := b_w2.below.size
            have a_w2 := a_w1.trans b_w2
            have s0_w2 := any_own b_w2 s0_w1
            have s1_w2 := any_own b_w2 s1_w1
            have r0_w2 := own_row s0_w2
            have f0_w2 := own_free s0_w2
            have l0_w2 := own_lt s0_w2
            have r1_w2 := own_row s1_w2
            have f1_w2 := own_free s1_w2
            have l1_w2 := own_lt s1_w2
            (try clear r0_w1); (try clear f0_w1)
            (try clear r1_w1); (try clear f1_w1)
            go_wp2_with fail
            apply wp_region_mem (14) [] (by kernel_rfl) (by kernel_rfl) (by simp)
            case hstab =>
              intro e he v x y hxy hv
              simp only [List.mem_cons, List.not_mem_nil, or_false] at he
            case hlex =>
              intro U
              have q0 := fun (v : Later (later U)) => own_row (any_own ⟨v, rfl⟩ (any_own ⟨U, rfl⟩ s0_w2))
              have q1 := fun (v : Later (later U)) => own_row (any_own ⟨v, rfl⟩ (any_own ⟨U, rfl⟩ s1_w2))
              simp only [absFrom, absOp, idx, List.map_cons, List.map_nil, List.contains_cons, List.contains_nil, Nat.reduceBEq, Bool.or_false, Bool.false_or, Bool.true_or, Bool.or_true, Bool.false_eq_true, Nat.reduceLeDiff, Nat.reduceAdd, if_false, if_true]
              repeat (go_big_quiet_step (first | fail))
              exact wpQuiet_nil rfl
            case hown =>
              intro e he o ho
              simp only [List.mem_cons, List.not_mem_nil, or_false] at he
            case htail =>
              intro g u hst hne
              have b_w3 : AnyLater w2 (later u) := ⟨u, rfl⟩
              generalize later u = w3 at *
              clear u
              clear hst hne
              simp only [fillAll, Act.put, List.setIfInBounds_toArray, List.set_cons_zero, List.set_cons_succ, List.drop_succ_cons, List.drop_zero]
              have z_w3 := b_w3.below.size
              have a_w3 := a_w2.trans b_w3
              have s0_w3 := any_own b_w3 s0_w2
              have s1_w3 := any_own b_w3 s1_w2
              have r0_w3 := own_row s0_w3
              have f0_w3 := own_free s0_w3
              have l0_w3 := own_lt s0_w3
              have r1_w3 := own_row s1_w3
              have f1_w3 := own_free s1_w3
              have l1_w3 := own_lt s1_w3
              (try clear r0_w2); (try clear f0_w2)
              (try clear r1_w2); (try clear f1_w2)
              go_wp2_with fail
              go_roundg (n - (j + 1))
              case measure => omega
              case rel => exact ⟨j + 1, K0 ++ [(kf, hiZ kt t)], _, rfl, hlt, by go_num, by rw [HLen.out], a_w3.setCell hWg _, heap_at s0_w3 rfl, by rw [Array.size_setIfInBounds]; exact HZ.out, HS.out h⟩
        · go_wp2_with fail
          first | refine settle_wp (fun wS => AnyLater wr wS ∧ wS.heap[wr.heap.size]? = some (.cells #[.int .i64 f, .int .i64 t] 56)) ?_ ?_ | refine settle_calls (fun wS => AnyLater wr wS ∧ wS.heap[wr.heap.size]? = some (.cells #[.int .i64 f, .int .i64 t] 56)) ?_ ?_
          · refine ⟨?_, ?_⟩
            · repeat' (first | with_reducible assumption | with_reducible exact AnyLater.refl _ | with_reducible apply AnyLater.setCell | with_reducible apply AnyLater.later | with_reducible apply AnyLater.drewN | with_reducible apply AnyLater.drew | with_reducible apply AnyLater.alloc | ((try simp only [World.size_alloc, World.size_setCell, World.size_drew]); (try dsimp only); omega))
            · ((repeat (first | with_reducible assumption | ((with_reducible apply heap_new); (try simp only [World.size_alloc, World.size_setCell, World.size_drew, World.heap_drewN]); done) | ((with_reducible apply heap_new); (try simp only [World.size_alloc, World.size_setCell, World.size_drew, World.heap_drewN]); omega) | (with_reducible refine heap_old (by (try simp only [World.size_alloc, World.size_setCell, World.size_drew, World.heap_drewN]); omega) ?_) | (with_reducible refine heap_drew ?_) | (with_reducible refine heap_far (by omega) ?_) | (with_reducible apply heap_at))); all_goals rfl)
          rintro w1 ⟨b_w1, s1_w1⟩
          have a_w1 := a_wr.trans b_w1
          have s0_w1 := any_own b_w1 s0_wr
          have r0_w1 := own_row s0_w1
          have f0_w1 := own_free s0_w1
          have l0_w1 := own_lt s0_w1
          (try clear r0_wr); (try clear f0_wr)
          have r1_w1 := own_row s1_w1
          have f1_w1 := own_free s1_w1
          have l1_w1 := own_lt s1_w1
          have z_w1 := b_w1.below.size
          apply wp_region_mem (13) [] (by kernel_rfl) (by kernel_rfl) (by simp)
          case hstab =>
            intro e he v x y hxy hv
            simp only [List.mem_cons, List.not_mem_nil, or_false] at he
          case hlex =>
            intro U
            have q0 := fun (v : Later (later U)) => own_row (any_own ⟨v, rfl⟩ (any_own ⟨U, rfl⟩ s0_w1))
            have q1 := fun (v : Later (later U)) => own_row (any_own ⟨v, rfl⟩ (any_own ⟨U, rfl⟩ s1_w1))
            simp only [absFrom, absOp, idx, List.map_cons, List.map_nil, List.contains_cons, List.contains_nil, Nat.reduceBEq, Bool.or_false, Bool.false_or, Bool.true_or, Bool.or_true, Bool.false_eq_true, Nat.reduceLeDiff, Nat.reduceAdd, if_false, if_true]
            repeat (go_big_quiet_step (first | fail))
            exact wpQuiet_nil rfl
          case hown =>
            intro e he o ho
            simp only [List.mem_cons, List.not_mem_nil, or_false] at he
          case htail =>
            intro g u hst hne
            have b_w2 : AnyLater w1 (later u) := ⟨u, rfl⟩
            generalize later u = w2 at *
            clear u
            clear hst hne
            simp only [fillAll, Act.put, List.setIfInBounds_toArray, List.set_cons_zero, List.set_cons_succ, List.drop_succ_cons, List.drop_zero]
            have z_w2 := b_w2.below.size
            have a_w2 := a_w1.trans b_w2
            have s0_w2 := any_own b_w2 s0_w1
            have s1_w2 := any_own b_w2 s1_w1
            have r0_w2 := own_row s0_w2
            have f0_w2 := own_free s0_w2
            have l0_w2 := own_lt s0_w2
            have r1_w2 := own_row s1_w2
            have f1_w2 := own_free s1_w2
            have l1_w2 := own_lt s1_w2
            (try clear r0_w1); (try clear f0_w1)
            (try clear r1_w1); (try clear f1_w1)
            have HB := Lib.hid (And.intro (heap_old (o := .cells #[.int .i64 f, .int .i64 t] 56) l0_w2 s0_w2) (World.news_of_block (w := w2.alloc (.cells #[.int .i64 f, .int .i64 t] 56)) (cs := #[.int .i64 f, .int .i64 t]) (t := 56) (fr := (0, 0)) (heap_new rfl)))
            have HQ : Hid ((m + 1) + 1 ≤ cap ∧ (m + 1) * 2 + 2 ≤ cur.size) := Lib.hid ⟨by omega, by rw [HZ.out]; omega⟩
            go_wp2_with (at_builtin; refine wpList_append_fit _ rfl _ _ 34 rfl 56 i0 2 Tryz.underlying34 hi0 hz1 gb (m + 1) cap cur rfl HB.out.1 ⟨w2.heap.size, 0, none⟩ 1 1 [.int .i64 f, .int .i64 t] rfl rfl HB.out.2 (by simp [Value.oneCell']) HQ.out.1 HQ.out.2 ?_; intro w3 cur3 p1 p2 p3 p4 p5; have S : Hid (AnyLater W w3 ∧ w3.heap[gb]? = some (.cells cur3 56) ∧ cur3.size = cap * 2 ∧ MergeAt L (j + 1) (K0 ++ [(kf, kt)] ++ [(f, t)]) cur3) := Lib.hid ⟨p5 W (a_w2.alloc _) hWg, p1, p2.trans HZ.out, HF2.out (by omega) cur3 (p3 0 (by simp)) (p3 1 (by simp)) (fun i hi => p4 i hi)⟩; clear p1 p2 p3 p4 p5)
            go_roundg (n - (j + 1))
            case measure => omega
            case rel => exact ⟨j + 1, K0 ++ [(kf, kt)] ++ [(f, t)], cur3, rfl, hlt, by go_num, by rw [HLen2.out], S.out⟩
    · obtain rfl : j = n := by omega
      go_wp2_with fail
      go_ret
      exact ⟨_, K, rfl, a_wr, OB.of_block hWg s0_wr (by have := HM.out.inv.len; omega) HF.out.2.2 HZ.out HM.out.kept, HM.out.inv.good, fun y => by rw [HM.out.inv.rows, List.take_of_length_le (Nat.le_of_eq HL.out)]⟩
end Go.Proofs.YtiicaldnegcdiaaGreat
