/- rect: the law on what of a rectangle is not in another one: what the parts come to. -/
import Derived.Test.YtddmhonhajfehaaRectK
namespace Go.Proofs.Ytddmhonhajfehaa
set_option linter.unusedSimpArgs false
set_option linter.unusedVariables false
set_option linter.unusedSectionVars false
open Go.RowKit

theorem less_any (x y a b x2 y2 a2 b2 : Int) (w : World) (hx : I64 x) (hy : I64 y) (ha : I64 a) (hb : I64 b) (hx2 : I64 x2) (hy2 : I64 y2) (ha2 : I64 a2) (hb2 : I64 b2) :
    Calls Try.prog 19 #[.agg #[.int .i64 x, .int .i64 y, .int .i64 a, .int .i64 b], .agg #[.int .i64 x2, .int .i64 y2, .int .i64 a2, .int .i64 b2]] w (Gives (isRects (lessR ⟨x, y, a, b⟩ ⟨x2, y2, a2, b2⟩)) w) := by
  obtain ⟨⟨mx, my, ma, mb⟩, hm⟩ : ∃ m, meetR ⟨x, y, a, b⟩ ⟨x2, y2, a2, b2⟩ = m := ⟨_, rfl⟩
  cases g1 : anyB x y a b with
  | false => exact less_none _ _ _ _ _ _ _ _ _ hx hy ha hb hx2 hy2 ha2 hb2 g1
  | true =>
    cases g2 : anyB mx my ma mb with
    | false => exact less_one _ _ _ _ _ _ _ _ _ hx hy ha hb hx2 hy2 ha2 hb2 g1 _ _ _ _ hm g2
    | true => exact less_many _ _ _ _ _ _ _ _ _ hx hy ha hb hx2 hy2 ha2 hb2 g1 _ _ _ _ hm g2

def Rc.area (r : Rc) : Int := areaZ r.x r.y r.a r.b
/-- how many of these have the place -/
def cnt (l : List Rc) (p q : Int) : Int := ((l.filter fun r => r.has p q).length : Nat)
def sumA : List Rc → Int
  | [] => 0
  | r :: l => r.area + sumA l
theorem cnt_snoc (l : List Rc) (r : Rc) (p q : Int) : cnt (l ++ [r]) p q = cnt l p q + if r.has p q = true then 1 else 0 := by
  unfold cnt
  rw [List.filter_append]
  by_cases h : r.has p q = true <;> simp [h]
theorem sumA_app : ∀ (l m : List Rc), sumA (l ++ m) = sumA l + sumA m
  | [], m => by simp [sumA]
  | r :: l, m => by simp only [List.cons_append, sumA, sumA_app l m]; omega
theorem area_nonneg (r : Rc) : 0 ≤ r.area ∧ (r.any = true → r.area = r.a * r.b) ∧ (r.any = false → r.area = 0) := by
  unfold Rc.area areaZ Rc.any
  cases h : anyB r.x r.y r.a r.b with
  | false => simp
  | true =>
    have := anyB_iff.1 h
    have m := Int.mul_nonneg (show 0 ≤ r.a by omega) (show 0 ≤ r.b by omega)
    simp [m]
theorem area_le (r : Rc) : r.area ≤ 4611686018427387904 := by
  unfold Rc.area areaZ
  cases h : anyB r.x r.y r.a r.b with
  | false => simp
  | true =>
    have := anyB_iff.1 h
    have m : r.a * r.b ≤ 2147483648 * 2147483648 := Int.mul_le_mul (by omega) (by omega) (by omega) (by omega)
    simp only [if_true]; omega
theorem sumA_nonneg : ∀ l : List Rc, 0 ≤ sumA l
  | [] => by simp [sumA]
  | r :: l => by have := (area_nonneg r).1; have := sumA_nonneg l; simp only [sumA]; omega
theorem sumA_take (l : List Rc) (k : Nat) : sumA (l.take k) ≤ sumA l := by
  have := sumA_app (l.take k) (l.drop k)
  rw [List.take_append_drop] at this
  have := sumA_nonneg (l.drop k)
  omega
theorem cnt_filter (l : List Rc) (p q : Int) : cnt (l.filter Rc.any) p q = cnt l p q := by
  unfold cnt
  rw [List.filter_filter]
  congr 2
  apply List.filter_congr
  intro r _
  cases h : r.has p q with
  | false => rfl
  | true =>
    cases h2 : r.any with
    | true => rfl
    | false => have := inB_none (x := r.x) (y := r.y) (a := r.a) (b := r.b) (u := p) (v := q) h2; unfold Rc.has at h; rw [this] at h; cases h
theorem sumA_filter : ∀ l : List Rc, sumA (l.filter Rc.any) = sumA l
  | [] => rfl
  | r :: l => by
    have := (area_nonneg r).2.2
    have ih := sumA_filter l
    cases h : r.any with
    | true => rw [List.filter_cons_of_pos h]; simp only [sumA, ih]
    | false => rw [List.filter_cons_of_neg (by rw [h]; simp)]; simp only [sumA, ih, this h]; omega

theorem cnt4 (r0 r1 r2 r3 : Rc) (p q : Int) : cnt [r0, r1, r2, r3] p q = (if r0.has p q = true then 1 else 0) + (if r1.has p q = true then 1 else 0) + (if r2.has p q = true then 1 else 0) + (if r3.has p q = true then 1 else 0) := by
  have h0 : cnt [] p q = 0 := rfl
  have h1 := cnt_snoc [] r0 p q
  have h2 := cnt_snoc [r0] r1 p q
  have h3 := cnt_snoc [r0, r1] r2 p q
  have h4 := cnt_snoc [r0, r1, r2] r3 p q
  simp only [List.nil_append, List.cons_append] at h1 h2 h3 h4
  omega
/-- the parts around a rectangle within -/
theorem around_math (x y a b mx my ma mb p q : Int) (h1 : anyB x y a b = true) (h2 : anyB mx my ma mb = true) (h3 : x ≤ mx ∧ mx + ma ≤ x + a) (h4 : y ≤ my ∧ my + mb ≤ y + b) :
    cnt (aroundR ⟨x, y, a, b⟩ ⟨mx, my, ma, mb⟩) p q = (if inB x y a b p q = true ∧ inB mx my ma mb p q = false then 1 else 0) ∧ sumA (aroundR ⟨x, y, a, b⟩ ⟨mx, my, ma, mb⟩) = a * b - ma * mb := by
  have i1 := anyB_iff.1 h1
  have i2 := anyB_iff.1 h2
  constructor
  · unfold aroundR
    rw [cnt4]
    unfold Rc.has
    simp only [← Bool.not_eq_true, inB_iff]
    repeat' split
    all_goals omega
  · unfold aroundR
    have ar : ∀ r : Rc, -1073741824 ≤ r.x → 0 ≤ r.a → r.x + r.a ≤ 1073741824 → -1073741824 ≤ r.y → 0 ≤ r.b → r.y + r.b ≤ 1073741824 → r.area = r.a * r.b := by
      intro r g1 g2 g3 g4 g5 g6
      cases h : r.any with
      | true => exact (area_nonneg r).2.1 h
      | false =>
        rw [(area_nonneg r).2.2 h]
        have : ¬ (0 < r.a ∧ 0 < r.b) := fun hh => by
          have : anyB r.x r.y r.a r.b = true := anyB_iff.2 (by omega)
          unfold Rc.any at h; rw [this] at h; cases h
        rcases (by omega : r.a = 0 ∨ r.b = 0) with h | h <;> rw [h] <;> simp
    simp only [sumA]
    rw [ar _ (by dsimp only; omega) (by dsimp only; omega) (by dsimp only; omega) (by dsimp only; omega) (by dsimp only; omega) (by dsimp only; omega),
      ar _ (by dsimp only; omega) (by dsimp only; omega) (by dsimp only; omega) (by dsimp only; omega) (by dsimp only; omega) (by dsimp only; omega),
      ar _ (by dsimp only; omega) (by dsimp only; omega) (by dsimp only; omega) (by dsimp only; omega) (by dsimp only; omega) (by dsimp only; omega),
      ar _ (by dsimp only; omega) (by dsimp only; omega) (by dsimp only; omega) (by dsimp only; omega) (by dsimp only; omega) (by dsimp only; omega)]
    dsimp only
    obtain ⟨u, rfl⟩ : ∃ u, mx = x + u := ⟨mx - x, by omega⟩
    obtain ⟨v, rfl⟩ : ∃ v, my = y + v := ⟨my - y, by omega⟩
    obtain ⟨s, rfl⟩ : ∃ s, a = u + ma + s := ⟨a - u - ma, by omega⟩
    obtain ⟨t, rfl⟩ : ∃ t, b = v + mb + t := ⟨b - v - mb, by omega⟩
    have q1 : y + v - y = v := by omega
    have q2 : x + u - x = u := by omega
    have q3 : x + (u + ma + s) - (x + u) - ma = s := by omega
    have q4 : y + (v + mb + t) - (y + v) - mb = t := by omega
    rw [q1, q2, q3, q4]
    simp only [Int.add_mul, Int.mul_add]
    omega

/-- what Less comes to -/
theorem less_math {x y a b x2 y2 a2 b2 mx my ma mb : Int} (hm : meetR ⟨x, y, a, b⟩ ⟨x2, y2, a2, b2⟩ = ⟨mx, my, ma, mb⟩) :
    (∀ r ∈ lessR ⟨x, y, a, b⟩ ⟨x2, y2, a2, b2⟩, r.any = true) ∧ (lessR ⟨x, y, a, b⟩ ⟨x2, y2, a2, b2⟩).length ≤ 4 ∧
    (∀ p q, cnt (lessR ⟨x, y, a, b⟩ ⟨x2, y2, a2, b2⟩) p q = if inB x y a b p q = true ∧ inB x2 y2 a2 b2 p q = false then 1 else 0) ∧ sumA (lessR ⟨x, y, a, b⟩ ⟨x2, y2, a2, b2⟩) = areaZ x y a b - areaZ mx my ma mb := by
  obtain ⟨_, mh⟩ := meet_in hm
  unfold lessR
  rw [hm]
  cases g1 : anyB x y a b with
  | false =>
    have e : (⟨x, y, a, b⟩ : Rc).any = false := g1
    have hz : mx = 0 ∧ my = 0 ∧ ma = 0 ∧ mb = 0 := by
      unfold meetR Rc.any Rc.zero at hm
      simp only [g1, Bool.false_and, Bool.false_eq_true, if_false, Rc.mk.injEq] at hm
      omega
    obtain ⟨rfl, rfl, rfl, rfl⟩ := hz
    simp only [e, Bool.false_eq_true, if_false]
    refine ⟨by simp, by simp, fun p q => ?_, ?_⟩
    · rw [if_neg (by rw [inB_none g1]; simp)]; rfl
    · unfold areaZ; rw [g1]; rfl
  | true =>
    have e : (⟨x, y, a, b⟩ : Rc).any = true := g1
    simp only [e, if_true]
    cases g2 : anyB mx my ma mb with
    | false =>
      have e2 : (⟨mx, my, ma, mb⟩ : Rc).any = false := g2
      simp only [e2, Bool.false_eq_true, if_false]
      refine ⟨by simp [e], by simp, fun p q => ?_, ?_⟩
      · have h1 := mh p q
        rw [inB_none g2] at h1
        unfold cnt Rc.has
        cases g3 : inB x y a b p q <;> cases g4 : inB x2 y2 a2 b2 p q <;> simp [g3, g4] at h1 ⊢
      · unfold areaZ; rw [g1, g2]
        simp [sumA, Rc.area, areaZ, g1]
    | true =>
      have e2 : (⟨mx, my, ma, mb⟩ : Rc).any = true := g2
      obtain ⟨c1, c2⟩ := meet_inside hm g2
      simp only [e2, if_true]
      refine ⟨fun r hr => (List.mem_filter.1 hr).2, Nat.le_trans (List.length_filter_le _ _) (by simp [aroundR]), fun p q => ?_, ?_⟩
      · rw [cnt_filter, (around_math x y a b mx my ma mb p q g1 g2 c1 c2).1]
        have h1 := mh p q
        cases g3 : inB x y a b p q <;> cases g4 : inB x2 y2 a2 b2 p q <;> rw [g3, g4] at h1 <;> simp [h1]
      · rw [sumA_filter, (around_math x y a b mx my ma mb 0 0 g1 g2 c1 c2).2]
        unfold areaZ; rw [g1, g2]; rfl

theorem rcs_get : ∀ (L : List Rc) (k : Nat) (r : Rc), L[k]? = some r → ∀ j, j < 4 → (rcs L)[k * 4 + j]? = r.cells[j]?
  | [], k, r, h, _, _ => by simp at h
  | s :: L, 0, r, h, j, hj => by
    simp only [List.getElem?_cons_zero, Option.some.injEq] at h
    subst h
    show (s.cells ++ rcs L)[0 * 4 + j]? = _
    rw [Nat.zero_mul, Nat.zero_add, List.getElem?_append_left (by simpa [Rc.cells] using hj)]
  | s :: L, k + 1, r, h, j, hj => by
    show (s.cells ++ rcs L)[(k + 1) * 4 + j]? = _
    have hlen : s.cells.length = 4 := rfl
    rw [List.getElem?_append_right (by omega), hlen, show (k + 1) * 4 + j - 4 = k * 4 + j by omega]
    exact rcs_get L k r (by simpa using h) j hj
theorem rcs_len : ∀ L : List Rc, (rcs L).length = L.length * 4
  | [] => rfl
  | s :: L => by
    show (s.cells ++ rcs L).length = _
    have hlen : s.cells.length = 4 := rfl
    rw [List.length_append, rcs_len L, hlen, List.length_cons]; omega
theorem cur_get {L : List Rc} {cur : Array Value} (h : cur.toList.take (L.length * 4) = rcs L) {k : Nat} {r : Rc} (hk : L[k]? = some r) {j : Nat} (hj : j < 4) : cur[k * 4 + j]? = r.cells[j]? := by
  rw [← rcs_get L k r hk j hj, ← h]
  have : k < L.length := (List.getElem?_eq_some_iff.1 hk).1
  rw [List.getElem?_take_of_lt (by omega), Array.getElem?_toList]
theorem take_on {L : List Rc} {k : Nat} {r : Rc} (hk : L[k]? = some r) : L.take (k + 1) = L.take k ++ [r] := by
  obtain ⟨hl, he⟩ := List.getElem?_eq_some_iff.1 hk
  rw [List.take_succ_eq_append_getElem hl, he]
theorem cnt_in (L : List Rc) (p q : Int) : 0 ≤ cnt L p q ∧ cnt L p q ≤ L.length := by
  unfold cnt
  have := List.length_filter_le (fun r => Rc.has r p q) L
  omega
end Go.Proofs.Ytddmhonhajfehaa
