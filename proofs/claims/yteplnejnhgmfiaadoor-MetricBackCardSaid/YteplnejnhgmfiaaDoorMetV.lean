/- metric: of a line that was laid out, each place where a caret stands is found where it is, as mathematics. No code. -/
import Derived.Test.YteplnejnhgmfiaaDoorMetO
namespace Go.Proofs.YteplnejnhgmfiaaDoor
set_option linter.unusedSimpArgs false
set_option linter.unusedVariables false
set_option linter.unusedSectionVars false
open Go.RowKit

/-! ### x -/
theorem widC_pos (c : Cel) {x : Int} (h : 0 ≤ x ∧ x ≤ 1073741824) : 1 ≤ widC c x := by
  have := advC_in c.2.2.2
  unfold widC widR
  split
  · rw [if_neg (by omega)]; omega
  · omega
theorem xsC_ge : ∀ (P : Cels) (x : Int) (j : Nat), j ≤ P.length → x ≤ (xsC x P).getD j 0
  | [], x, j, h => by
    obtain rfl : j = 0 := by simpa using h
    exact Int.le_refl _
  | c :: P, x, 0, h => Int.le_refl _
  | c :: P, x, j + 1, h => by
    have h1 := xsC_ge P (x + widC c x) j (by simpa using h)
    have h2 := widR_in c.2.2.1 c.2.2.2 x
    show x ≤ (xsC (x + widC c x) P).getD j 0
    unfold widC at *
    omega
theorem xsC_lt : ∀ (P : Cels) (x : Int) (i j : Nat), 0 ≤ x → x + 48 * P.length ≤ 1073741824 → i < j → j ≤ P.length → (xsC x P).getD i 0 < (xsC x P).getD j 0
  | [], x, i, j, h0, h1, h2, h3 => by simp at h3; omega
  | c :: P, x, i, 0, h0, h1, h2, h3 => by omega
  | c :: P, x, 0, j + 1, h0, h1, h2, h3 => by
    have k1 := xsC_ge P (x + widC c x) j (by simpa using h3)
    have k2 := widC_pos c (x := x) ⟨h0, by rw [List.length_cons] at h1; omega⟩
    show x < (xsC (x + widC c x) P).getD j 0
    omega
  | c :: P, x, i + 1, j + 1, h0, h1, h2, h3 => by
    have k2 := widR_in c.2.2.1 c.2.2.2 x
    rw [List.length_cons] at h1 h3
    exact xsC_lt P (x + widC c x) i j (by unfold widC; omega) (by unfold widC; omega) (by omega) (by omega)

/-! ### the nearest -/
theorem gapZ_self (a : Int) : gapZ a a = 0 := by unfold gapZ; split <;> omega
theorem gapZ_pos {a b : Int} (h : a ≠ b) : 0 < gapZ a b := by unfold gapZ; split <;> omega
theorem nbest_is {P X : List Int} {x : Int} {k : Nat} (h : X.getD k 0 = x) : ∀ n, k ≤ n → (∀ j, j ≤ n → j ≠ k → X.getD j 0 ≠ x) → nbest P X x n = k
  | 0, h1, _ => by
    show 0 = k
    omega
  | n + 1, h1, h2 => by
    unfold nbest
    by_cases e : k = n + 1
    · subst e
      have hb := nbest_le P X x n
      have := gapZ_pos (h2 (nbest P X x n) (by omega) (by omega))
      rw [h, gapZ_self, if_pos (.inl this)]
    · rw [nbest_is h n (by omega) (fun j hj => h2 j (by omega)), h, gapZ_self]
      have := gapZ_pos (h2 (n + 1) (by omega) (fun q => e q.symm))
      rw [if_neg (by omega)]

/-! ### a row's places -/
theorem placesL_lay (P : Cels) (la : Bool) : placesL (layL P la) = P.map (·.1) ++ (if la then [toL P] else []) := by
  unfold placesL atsL
  show (P.map (·.1) ++ (if la then [toL P] else [])).take (xsC 0 P).length = _
  apply List.take_of_length_le
  rw [xsC_length, List.length_append, List.length_map]
  split <;> simp
theorem nearL_lay {P : Cels} {la : Bool} (hP : P.length ≤ 1000) {k : Nat} (hk : k < (placesL (layL P la)).length) : nearL (layL P la) ((xsC 0 P).getD k 0) = (placesL (layL P la)).getD k 0 := by
  have hl := placesL_lay P la
  have hlen : (placesL (layL P la)).length ≤ P.length + 1 := by
    rw [hl, List.length_append, List.length_map]
    split <;> simp
  unfold nearL
  rw [if_neg (by omega)]
  congr 1
  refine nbest_is (X := xsC 0 P) rfl _ (by omega) (fun j hj hjk => ?_)
  rcases Nat.lt_or_gt_of_ne hjk with q | q
  · have := xsC_lt P 0 j k (by omega) (by omega) q (by omega)
    omega
  · have := xsC_lt P 0 k j (by omega) (by omega) q (by omega)
    omega
theorem idxC_no {p : Cel → Bool} {l : Cels} (h : ∀ c ∈ l, p c = false) : idxC p l = -1 := by
  unfold idxC
  rw [if_neg]
  intro q
  obtain ⟨c, hc, e⟩ := List.any_eq_true.1 q
  rw [h c hc] at e
  cases e
theorem idxC_is {p : Cel → Bool} {l : Cels} {k : Nat} (hk : k < l.length) (h1 : p l[k] = true) (h2 : ∀ (j : Nat) (hj : j < k), p (l[j]'(by omega)) = false) : idxC p l = (k : Int) := by
  unfold idxC
  rw [if_pos (List.any_eq_true.2 ⟨_, List.getElem_mem hk, h1⟩), (List.findIdx_eq hk).2 ⟨h1, h2⟩]
theorem begI_lay (col : Int) (P : Cels) (la : Bool) : begI col (layL P la) = idxC (fun c => c.1 == col) P := by
  unfold begI
  show idxC _ (P.take (min P.length (xsC 0 P).length)) = _
  rw [xsC_length, Nat.min_eq_left (by omega), List.take_length]
theorem begX_none {col : Int} {P : Cels} {la : Bool} (h : ∀ c ∈ P, c.1 ≠ col) : begX col (layL P la) = none := by
  unfold begX
  rw [begI_lay, idxC_no (fun c hc => by simpa using h c hc), if_neg (by omega)]
theorem begX_some {col : Int} {P : Cels} {la : Bool} {k : Nat} (hk : k < P.length) (h1 : P[k].1 = col) (h2 : ∀ (j : Nat) (hj : j < k), (P[j]'(by omega)).1 ≠ col) : begX col (layL P la) = some ((xsC 0 P).getD k 0) := by
  unfold begX
  rw [begI_lay, idxC_is hk (by simpa using h1) (fun j hj => by simpa using h2 j hj), if_pos (by omega), Int.toNat_natCast]
  show (xsC 0 P)[k]? = _
  rw [List.getD_eq_getElem?_getD, List.getElem?_eq_getElem (by rw [xsC_length]; omega)]; rfl

/-! ### the rows one behind the other -/
theorem wRows_head {l : Cels} {m : Int} : ∀ g f r, (wRows l m g f)[0]? = some r → r.1 = (f : Int)
  | 0, f, r, h => by simp [wRows] at h
  | g + 1, f, r, h => by
    rw [wRows_succ, List.getElem?_cons_zero, Option.some.injEq] at h
    rw [← h]
theorem wRows_next {l : Cels} {m : Int} : ∀ g f j r q, (wRows l m g f)[j]? = some r → (wRows l m g f)[j + 1]? = some q → q.1 = r.2.1
  | 0, f, j, r, q, h, _ => by simp [wRows] at h
  | g + 1, f, j, r, q, h, k => by
    rw [wRows_succ] at h k
    rw [List.getElem?_cons_succ] at k
    cases j with
    | zero =>
      rw [List.getElem?_cons_zero, Option.some.injEq] at h
      rw [← h]
      split at k
      · simp at k
      · exact wRows_head _ _ _ k
    | succ j =>
      rw [List.getElem?_cons_succ] at h
      split at k
      · simp at k
      · rename_i hq
        rw [if_neg hq] at h
        exact wRows_next g _ j r q h k
theorem wRows_end {l : Cels} {m : Int} : ∀ g f, l.length + 1 ≤ g + f → f ≤ l.length → ∃ r, (wRows l m g f).getLast? = some r ∧ r.2.1 = (l.length : Int)
  | 0, f, h, k => by omega
  | g + 1, f, h, k => by
    have b := wNext_in (W := m) k
    rw [wRows_succ]
    split
    · refine ⟨_, rfl, ?_⟩
      show ((wNext l m f : Nat) : Int) = _
      omega
    · rename_i q
      obtain ⟨r, h1, h2⟩ := wRows_end (l := l) (m := m) g (wNext l m f) (by omega) (by omega)
      refine ⟨r, ?_, h2⟩
      rw [List.getLast?_cons, h1]; rfl
theorem wRows_full {l : Cels} {m : Int} : ∀ g f, f < l.length → ∀ (j : Nat) (r : Rw), (wRows l m g f)[j]? = some r → r.1 < r.2.1
  | 0, f, _, j, r, h => by simp [wRows] at h
  | g + 1, f, hf, j, r, h => by
    have k := wNext_in (W := m) (Nat.le_of_lt hf)
    rw [wRows_succ] at h
    cases j with
    | zero =>
      rw [List.getElem?_cons_zero, Option.some.injEq] at h
      have := k.2.2 hf
      rw [← h]
      simp only
      omega
    | succ j =>
      rw [List.getElem?_cons_succ] at h
      split at h
      · simp at h
      · exact wRows_full g _ (by omega) j r h
/-- the rows by the numbers of their cells -/
theorem lines_cut (C : Cels) (x : Int) : ∃ (n : Nat) (a b : Nat → Nat), (linesL C x).length = n ∧ 1 ≤ n ∧ (∀ i, i < n → a i ≤ b i ∧ b i ≤ C.length) ∧ (∀ i, i + 1 < n → a (i + 1) = b i) ∧ b (n - 1) = C.length ∧ (0 < C.length → ∀ i, i < n → a i < b i) ∧
    ∀ (i : Nat) (h : i < (linesL C x).length), (linesL C x)[i] = layL ((C.take (b i)).drop (a i)) (decide (i + 1 = n)) := by
  obtain ⟨R, hR⟩ : ∃ R, rowsW C x = R := ⟨_, rfl⟩
  have hA := rowsW_at C x
  have h1 := (rowsW_pos C x).1
  have hL := linesL_eq hR rfl
  have hN : ∀ j r q, R[j]? = some r → R[j + 1]? = some q → q.1 = r.2.1 := fun j r q h k => by
    rw [← hR] at h k
    exact wRows_next _ _ j r q h k
  obtain ⟨z, hz1, hz2⟩ := wRows_end (l := C) (m := max x 1) (C.length + 1) 0 (by omega) (by omega)
  have hz : R.getLast? = some z := by rw [← hR]; exact hz1
  rw [hR] at hA h1
  rw [List.getLast?_eq_getElem?] at hz
  have hg : ∀ i (h : i < R.length), R.getD i (0, 0, 0) = R[i] := fun i h => by rw [List.getD_eq_getElem?_getD, List.getElem?_eq_getElem h]; rfl
  refine ⟨R.length, fun i => (R.getD i (0, 0, 0)).1.toNat, fun i => (R.getD i (0, 0, 0)).2.1.toNat, by rw [hL]; simp, h1, ?_, ?_, ?_, ?_, ?_⟩
  · intro i hi
    obtain ⟨a, b, e, k1, k2⟩ := hA i hi
    simp only
    rw [hg i hi, e]
    simp only [Int.toNat_natCast]
    exact ⟨k1, k2⟩
  · intro i hi
    have := hN i _ _ (List.getElem?_eq_getElem (by omega)) (List.getElem?_eq_getElem hi)
    simp only
    rw [hg i (by omega), hg (i + 1) hi, this]
  · have hi : R.length - 1 < R.length := by omega
    rw [List.getElem?_eq_getElem hi, Option.some.injEq] at hz
    simp only
    rw [hg _ hi, hz, hz2, Int.toNat_natCast]
  · intro h0 i hi
    have hF : ∀ r, R[i]? = some r → r.1 < r.2.1 := fun r hr => by
      rw [← hR] at hr
      exact wRows_full _ _ h0 i r hr
    have := hF _ (List.getElem?_eq_getElem hi)
    obtain ⟨a, b, e, k1, k2⟩ := hA i hi
    simp only
    rw [hg i hi]
    rw [e] at this ⊢
    simp only [Int.toNat_natCast] at this ⊢
    omega
  · intro i hi
    have hi2 : i < R.length := by rw [hL] at hi; simpa using hi
    have : (linesL C x)[i]? = some (layL (rowCels C (R.getD i (0, 0, 0))) (decide (i + 1 = R.length))) := by
      rw [hL, List.getElem?_map, List.getElem?_range hi2]; rfl
    rw [List.getElem?_eq_getElem hi, Option.some.injEq] at this
    rw [this]
    rfl
theorem part_at {C : Cels} {a b : Nat} (hb : b ≤ C.length) : ((C.take b).drop a).length = b - a ∧ ∀ (k : Nat) (h : k < ((C.take b).drop a).length) (h2 : a + k < C.length), ((C.take b).drop a)[k] = C[a + k] := by
  refine ⟨by rw [List.length_drop, List.length_take]; omega, fun k h h2 => ?_⟩
  rw [List.getElem_drop, List.getElem_take]
/-- each place is found where it is -/
theorem lines_back {C : Cels} {E : Int} (x : Int) (hm : ∀ (i j : Nat) (hi : i < C.length) (hj : j < C.length), i < j → C[i].1 < C[j].1) (hE : ∀ (j : Nat) (hj : j < C.length), C[j].1 < E) (hl : ∀ (j : Nat) (hj : j < C.length), j + 1 = C.length → C[j].1 + C[j].2.1 = E) (h0 : C.length = 0 → E = 0) (hc : C.length ≤ 1000) :
    (∀ (i : Nat) (hi : i < (linesL C x).length) (k : Nat), k < (placesL (linesL C x)[i]).length → k < (linesL C x)[i].xs.length ∧ atL ((placesL (linesL C x)[i]).getD k 0) (linesL C x) = ((i : Int), (linesL C x)[i].xs.getD k 0, true) ∧ nearL (linesL C x)[i] ((linesL C x)[i].xs.getD k 0) = (placesL (linesL C x)[i]).getD k 0) ∧ ∃ k y, atL E (linesL C x) = (k, y, true) := by
  obtain ⟨n, a, b, hn, h1, hab, hnx, hbn, hfull, hL⟩ := lines_cut C x
  obtain ⟨L, hLL⟩ : ∃ L, linesL C x = L := ⟨_, rfl⟩
  simp only [hLL] at hn hL ⊢
  have ord : ∀ j i, i < j → j < n → b i ≤ a j := by
    intro j
    induction j with
    | zero => intro i h _; omega
    | succ j ih =>
      intro i h1 h2
      rw [hnx j h2]
      rcases Nat.lt_or_ge i j with q | q
      · have := ih i q (by omega)
        have := hab j (by omega)
        omega
      · obtain rfl : i = j := by omega
        exact Nat.le_refl _
  -- a cell of another row lies at another place
  have other : ∀ (g j : Nat) (hg : g < C.length) (hj : j < n), (g < a j ∨ b j ≤ g) → ∀ (hj2 : j < L.length), begX C[g].1 L[j] = none := by
    intro g j hg hj hgj hj2
    rw [hL j hj2]
    apply begX_none
    intro c hcm
    obtain ⟨t, ht, rfl⟩ := List.mem_iff_getElem.1 hcm
    have hp := part_at (a := a j) (hab j hj).2
    have ht2 := ht
    rw [hp.1] at ht2
    have hbj := (hab j hj).2
    rw [hp.2 t ht (by omega)]
    rcases hgj with q | q
    · have := hm g (a j + t) hg (by omega) (by omega)
      omega
    · have := hm (a j + t) g (by omega) hg (by omega)
      omega
  -- where cells begin
  have cell : ∀ (i k : Nat) (hi : i < L.length) (hk : a i + k < b i) (hg : a i + k < C.length), atL C[a i + k].1 L = ((i : Int), L[i].xs.getD k 0, true) := by
    intro i k hi hk hg
    have hin : i < n := by omega
    have hp := part_at (a := a i) (hab i hin).2
    have hx : begX C[a i + k].1 L[i] = some (L[i].xs.getD k 0) := by
      rw [hL i hi]
      have hkl : k < ((C.take (b i)).drop (a i)).length := by rw [hp.1]; omega
      refine begX_some hkl (by rw [hp.2 k hkl hg]) (fun j hj => ?_)
      rw [hp.2 j (by omega) (by omega)]
      have := hm (a i + j) (a i + k) (by omega) hg (by omega)
      omega
    have hlx := lastX_at hi hx L.length hi (Nat.le_refl _) (fun j hj hij _ => other (a i + k) j hg (by omega) (.inl (by have := ord j i hij (by omega); omega)) hj)
    unfold atL
    rw [hlx]
  -- where the line ends
  have last : atL E L = (((n - 1 : Nat) : Int), (L[n - 1]'(by omega)).xs.getD (L[n - 1]'(by omega)).cs.length 0, true) := by
    have hi : n - 1 < L.length := by omega
    have hnone : lastX (begX E) L L.length = none := by
      refine lastX_none _ (Nat.le_refl _) (fun j hj _ => ?_)
      rw [hL j hj]
      apply begX_none
      intro c hcm
      obtain ⟨t, ht, rfl⟩ := List.mem_iff_getElem.1 hcm
      have hp := part_at (a := a j) (hab j (by omega)).2
      have ht2 := ht
      rw [hp.1] at ht2
      have hbj := (hab j (by omega)).2
      rw [hp.2 t ht (by omega)]
      have := hE (a j + t) (by omega)
      omega
    have hp := part_at (a := a (n - 1)) (hab (n - 1) (by omega)).2
    have hto : toL ((C.take (b (n - 1))).drop (a (n - 1))) = E := by
      rcases Nat.eq_zero_or_pos C.length with q | q
      · have e0 : (C.take (b (n - 1))).drop (a (n - 1)) = [] := List.eq_nil_of_length_eq_zero (by rw [hp.1]; have := hab (n - 1) (by omega); omega)
        rw [h0 q, e0]; rfl
      · have hf := hfull q (n - 1) (by omega)
        have hlen : ((C.take (b (n - 1))).drop (a (n - 1))).length = (b (n - 1) - a (n - 1) - 1) + 1 := by rw [hp.1]; omega
        rw [toL_at hlen, hp.2 _ (by omega) (by omega)]
        have e : a (n - 1) + (b (n - 1) - a (n - 1) - 1) = C.length - 1 := by omega
        simp only [e]
        exact hl _ (by omega) (by omega)
    have hx : endX E L[n - 1] = some (L[n - 1].xs.getD L[n - 1].cs.length 0) := by
      rw [hL (n - 1) hi]
      unfold endX
      rw [if_pos ⟨by show decide _ = true; rw [decide_eq_true]; omega, hto⟩]
      show (xsC 0 _)[_]? = some ((xsC 0 _).getD _ 0)
      rw [List.getD_eq_getElem?_getD]
      show (xsC 0 ((C.take (b (n - 1))).drop (a (n - 1))))[((C.take (b (n - 1))).drop (a (n - 1))).length]? = some ((xsC 0 ((C.take (b (n - 1))).drop (a (n - 1))))[((C.take (b (n - 1))).drop (a (n - 1))).length]?.getD 0)
      rw [xsC_last]; rfl
    have hlx := lastX_at hi hx L.length hi (Nat.le_refl _) (fun j hj hij _ => absurd hij (by omega))
    unfold atL
    rw [hnone, hlx]
  refine ⟨fun i hi k hk => ?_, ⟨_, _, last⟩⟩
  have hin : i < n := by omega
  have hp := part_at (a := a i) (hab i hin).2
  have hb := hab i hin
  have hpl := placesL_lay ((C.take (b i)).drop (a i)) (decide (i + 1 = n))
  have hnear : nearL L[i] (L[i].xs.getD k 0) = (placesL L[i]).getD k 0 := by
    rw [hL i hi] at hk ⊢
    exact nearL_lay (by rw [hp.1]; omega) hk
  have hxl : L[i].xs.length = b i - a i + 1 := by
    rw [hL i hi]
    show (xsC 0 _).length = _
    rw [xsC_length, hp.1]
  rcases Nat.lt_or_ge k (b i - a i) with q | q
  · refine ⟨by omega, ?_, hnear⟩
    have hat : (placesL L[i]).getD k 0 = (C[a i + k]'(by omega)).1 := by
      rw [hL i hi, hpl, List.getD_eq_getElem?_getD, List.getElem?_append_left (by rw [List.length_map, hp.1]; exact q), List.getElem?_map, List.getElem?_eq_getElem (by rw [hp.1]; exact q), hp.2 k (by rw [hp.1]; exact q) (by omega)]
      rfl
    rw [hat]
    exact cell i k hi (by omega) (by omega)
  · have hk2 : k = b i - a i ∧ i + 1 = n := by
      rw [hL i hi, hpl, List.length_append, List.length_map, hp.1] at hk
      by_cases q2 : i + 1 = n
      · rw [decide_eq_true q2] at hk
        simp at hk
        omega
      · rw [decide_eq_false q2] at hk
        simp at hk
        omega
    obtain ⟨rfl, hin2⟩ := hk2
    refine ⟨by omega, ?_, hnear⟩
    obtain rfl : i = n - 1 := by omega
    have hcs : L[n - 1].cs.length = b (n - 1) - a (n - 1) := by rw [hL (n - 1) hi]; exact hp.1
    have hat : (placesL L[n - 1]).getD (b (n - 1) - a (n - 1)) 0 = E := by
      have hto : toL ((C.take (b (n - 1))).drop (a (n - 1))) = E := by
        rcases Nat.eq_zero_or_pos C.length with q | q
        · have e0 : (C.take (b (n - 1))).drop (a (n - 1)) = [] := List.eq_nil_of_length_eq_zero (by rw [hp.1]; omega)
          rw [h0 q, e0]; rfl
        · have hf := hfull q (n - 1) (by omega)
          have hlen : ((C.take (b (n - 1))).drop (a (n - 1))).length = (b (n - 1) - a (n - 1) - 1) + 1 := by rw [hp.1]; omega
          rw [toL_at hlen, hp.2 _ (by omega) (by omega)]
          have e : a (n - 1) + (b (n - 1) - a (n - 1) - 1) = C.length - 1 := by omega
          simp only [e]
          exact hl _ (by omega) (by omega)
      rw [hL (n - 1) hi, hpl, decide_eq_true hin2, List.getD_eq_getElem?_getD, List.getElem?_append_right (by rw [List.length_map, hp.1]; exact Nat.le_refl _), List.length_map, hp.1, Nat.sub_self, hto]
      rfl
    rw [hat, last, hcs]
end Go.Proofs.YteplnejnhgmfiaaDoor
