/- carets, the maths: the ends of a caret, the order, the sort, whether two meet, what they become, Tidy. No code. -/
import Derived.Test.YtkobnijjahpifaaDoorPairs
namespace Go.Proofs.YtkobnijjahpifaaDoor
set_option linter.unusedSimpArgs false
set_option linter.unusedVariables false
set_option linter.unusedSectionVars false

abbrev Ca := Int × Int
def loC (c : Ca) : Int := if c.1 < c.2 then c.1 else c.2
def hiC (c : Ca) : Int := if c.2 < c.1 then c.1 else c.2
theorem lo_le_hi (c : Ca) : loC c ≤ hiC c := by unfold loC hiC; split <;> split <;> omega
theorem lo_min (c : Ca) : loC c = min c.1 c.2 := by unfold loC; omega
theorem hi_max (c : Ca) : hiC c = max c.1 c.2 := by unfold hiC; omega
theorem none_iff (c : Ca) : c.1 = c.2 ↔ loC c = hiC c := by unfold loC hiC; split <;> split <;> omega
def leC (a b : Ca) : Bool := decide (loC a < loC b) || (decide (loC a = loC b) && decide (hiC a ≤ hiC b))
theorem leC_iff {a b : Ca} : leC a b = true ↔ loC a < loC b ∨ (loC a = loC b ∧ hiC a ≤ hiC b) := by unfold leC; simp
theorem leC_not {a b : Ca} : leC a b = false ↔ ¬ (loC a < loC b ∨ (loC a = loC b ∧ hiC a ≤ hiC b)) := by rw [← leC_iff]; simp
theorem leC_refl (a : Ca) : leC a a = true := leC_iff.2 (by omega)
theorem leC_trans {a b c : Ca} (h : leC a b = true) (k : leC b c = true) : leC a c = true := by
  rw [leC_iff] at *; omega
theorem leC_total {a b : Ca} (h : leC a b = false) : leC b a = true := by
  rw [leC_not] at h; rw [leC_iff]; omega
/-- of one place in the order -/
def eqC (k c : Ca) : Bool := decide (loC c = loC k) && decide (hiC c = hiC k)
theorem eqC_iff {k c : Ca} : eqC k c = true ↔ loC c = loC k ∧ hiC c = hiC k := by unfold eqC; simp
theorem eqC_refl (c : Ca) : eqC c c = true := eqC_iff.2 ⟨rfl, rfl⟩

/-! ### the sort -/
def SortedC (l : Qs) : Prop := l.Pairwise fun a b => leC a b = true
/-- those of each place in the order stand as they did -/
def Filt (l l' : Qs) : Prop := ∀ k, l.filter (eqC k) = l'.filter (eqC k)
theorem Filt.refl (l : Qs) : Filt l l := fun _ => rfl
theorem Filt.trans {a b c : Qs} (h : Filt a b) (k : Filt b c) : Filt a c := fun x => (h x).trans (k x)
theorem Filt.symm {a b : Qs} (h : Filt a b) : Filt b a := fun x => (h x).symm
theorem Filt.append {a b c d : Qs} (h : Filt a b) (k : Filt c d) : Filt (a ++ c) (b ++ d) := fun x => by rw [List.filter_append, List.filter_append, h x, k x]
theorem Filt.mem {a b : Qs} (h : Filt a b) (c : Ca) : c ∈ a ↔ c ∈ b := by
  have e : ∀ l : Qs, c ∈ l ↔ c ∈ l.filter (eqC c) := fun l => by rw [List.mem_filter]; simp [eqC_refl]
  rw [e a, e b, h c]
theorem filt_none {l : Qs} (h : Filt l []) : l = [] := by
  cases l with
  | nil => rfl
  | cons a t => have := (h.mem a).1 List.mem_cons_self; simp at this
theorem sort_uniq : ∀ (a b : Qs), SortedC a → SortedC b → Filt a b → a = b
  | [], b, _, _, h => (filt_none h.symm).symm
  | a :: t, [], _, _, h => filt_none h
  | a :: t, b :: u, ha, hb, h => by
    obtain ⟨ha1, ha2⟩ := List.pairwise_cons.1 ha
    obtain ⟨hb1, hb2⟩ := List.pairwise_cons.1 hb
    have hab : leC a b = true := by
      rcases List.mem_cons.1 ((h.mem b).2 List.mem_cons_self) with e | e
      · rw [e]; exact leC_refl _
      · exact ha1 _ e
    have hba : leC b a = true := by
      rcases List.mem_cons.1 ((h.mem a).1 List.mem_cons_self) with e | e
      · rw [e]; exact leC_refl _
      · exact hb1 _ e
    have e1 : eqC a b = true := by rw [leC_iff] at hab hba; rw [eqC_iff]; omega
    have h0 := h a
    rw [List.filter_cons_of_pos (eqC_refl a), List.filter_cons_of_pos e1] at h0
    obtain ⟨e2, h1⟩ := List.cons.inj h0
    subst e2
    rw [sort_uniq t u ha2 hb2 (fun k => by
      have hk := h k
      cases he : eqC k a with
      | true => rw [List.filter_cons_of_pos he, List.filter_cons_of_pos he] at hk; exact (List.cons.inj hk).2
      | false => rw [List.filter_cons_of_neg (by rw [he]; decide), List.filter_cons_of_neg (by rw [he]; decide)] at hk; exact hk)]
def kinsC (c : Ca) (s : Qs) : Qs := s.takeWhile (fun x => leC x c) ++ c :: s.dropWhile (fun x => leC x c)
theorem insC_nil (c : Ca) : kinsC c [] = [c] := rfl
theorem insC_go {c x : Ca} {t : Qs} (h : leC x c = true) : kinsC c (x :: t) = x :: kinsC c t := by unfold kinsC; simp [h]
theorem insC_stop {c x : Ca} {t : Qs} (h : leC x c = false) : kinsC c (x :: t) = c :: x :: t := by unfold kinsC; simp [h]
theorem insC_mem (c y : Ca) : ∀ s : Qs, y ∈ kinsC c s ↔ y = c ∨ y ∈ s
  | [] => by simp [insC_nil]
  | x :: t => by
    cases h : leC x c with
    | true => rw [insC_go h, List.mem_cons, insC_mem c y t, List.mem_cons]; constructor <;> (rintro (h | h | h) <;> simp [h])
    | false => rw [insC_stop h]; simp
theorem insC_len (c : Ca) : ∀ s : Qs, (kinsC c s).length = s.length + 1
  | [] => rfl
  | x :: t => by
    cases h : leC x c with
    | true => rw [insC_go h]; simp [insC_len c t]
    | false => rw [insC_stop h]; simp
theorem insC_sorted (c : Ca) : ∀ s : Qs, SortedC s → SortedC (kinsC c s)
  | [], _ => by rw [insC_nil]; exact List.pairwise_singleton _ _
  | x :: t, hs => by
    obtain ⟨h1, h2⟩ := List.pairwise_cons.1 hs
    cases h : leC x c with
    | true =>
      rw [insC_go h]
      refine List.pairwise_cons.2 ⟨fun y hy => ?_, insC_sorted c t h2⟩
      rcases (insC_mem c y t).1 hy with rfl | hy
      · exact h
      · exact h1 y hy
    | false =>
      rw [insC_stop h]
      refine List.pairwise_cons.2 ⟨fun y hy => ?_, hs⟩
      rcases List.mem_cons.1 hy with rfl | hy
      · exact leC_total h
      · exact leC_trans (leC_total h) (h1 y hy)
theorem insC_filt (c k : Ca) : ∀ s : Qs, SortedC s → (kinsC c s).filter (eqC k) = s.filter (eqC k) ++ (if eqC k c = true then [c] else [])
  | [], _ => by rw [insC_nil]; cases h : eqC k c <;> simp [h]
  | x :: t, hs => by
    obtain ⟨h1, h2⟩ := List.pairwise_cons.1 hs
    cases h : leC x c with
    | true =>
      rw [insC_go h]
      cases hk : eqC k x with
      | true => rw [List.filter_cons_of_pos hk, List.filter_cons_of_pos hk, insC_filt c k t h2, List.cons_append]
      | false => rw [List.filter_cons_of_neg (by rw [hk]; decide), List.filter_cons_of_neg (by rw [hk]; decide), insC_filt c k t h2]
    | false =>
      rw [insC_stop h]
      cases hk : eqC k c with
      | true =>
        have e : (x :: t).filter (eqC k) = [] := by
          rw [List.filter_eq_nil_iff]
          intro y hy hy2
          have hxy : leC x y = true := by
            rcases List.mem_cons.1 hy with rfl | hy
            · exact leC_refl _
            · exact h1 y hy
          rw [eqC_iff] at hk hy2
          rw [leC_not] at h
          rw [leC_iff] at hxy
          omega
        rw [List.filter_cons_of_pos hk, e]; rfl
      | false => rw [List.filter_cons_of_neg (by rw [hk]; decide)]; simp
def sortC (l : Qs) : Qs := l.foldl (fun s c => kinsC c s) []
theorem sortC_from : ∀ (l s : Qs), SortedC s → SortedC (l.foldl (fun s c => kinsC c s) s) ∧ Filt (l.foldl (fun s c => kinsC c s) s) (s ++ l) ∧ (l.foldl (fun s c => kinsC c s) s).length = s.length + l.length
  | [], s, h => ⟨h, by rw [List.append_nil]; exact .refl _, rfl⟩
  | c :: t, s, h => by
    obtain ⟨k1, k2, k3⟩ := sortC_from t (kinsC c s) (insC_sorted c s h)
    refine ⟨k1, fun k => ?_, by rw [List.foldl_cons, k3, insC_len, List.length_cons]; omega⟩
    rw [List.foldl_cons, k2 k, List.filter_append, insC_filt c k s h, List.filter_append, List.append_assoc]
    cases hk : eqC k c <;> simp [hk]
theorem sortC_sorted (l : Qs) : SortedC (sortC l) := (sortC_from l [] List.Pairwise.nil).1
theorem sortC_filt (l : Qs) : Filt (sortC l) l := (sortC_from l [] List.Pairwise.nil).2.1
theorem sortC_len (l : Qs) : (sortC l).length = l.length := by have := (sortC_from l [] List.Pairwise.nil).2.2; rw [List.length_nil, Nat.zero_add] at this; exact this
theorem sortC_eq {m l : Qs} (h : SortedC m) (k : Filt m l) : m = sortC l := sort_uniq _ _ h (sortC_sorted l) (k.trans (sortC_filt l).symm)
theorem sortC_self {m : Qs} (h : SortedC m) : sortC m = m := (sortC_eq h (.refl _)).symm
theorem sortC_mem (l : Qs) (c : Ca) : c ∈ sortC l ↔ c ∈ l := (sortC_filt l).mem c
theorem sortC_app (l : Qs) (c : Ca) : sortC (l ++ [c]) = kinsC c (sortC l) := by unfold sortC; rw [List.foldl_append]; rfl
theorem sortC_take {l : Qs} {j : Nat} (h : j < l.length) : sortC (l.take (j + 1)) = kinsC l[j] (sortC (l.take j)) := by rw [List.take_succ_eq_append_getElem h, sortC_app]
/-- where one is put in -/
theorem ins_at : ∀ (s : Qs) (c : Ca) (q : Nat) (hq : q ≤ s.length), SortedC s → (∀ h : 0 < q, leC (s[q - 1]'(by omega)) c = true) → (∀ h : q < s.length, leC s[q] c = false) → kinsC c s = s.take q ++ c :: s.drop q
  | [], c, q, hq, _, _, _ => by
    have : q = 0 := by simpa using hq
    subst this; rfl
  | x :: t, c, 0, _, _, _, h2 => by
    have e : leC x c = false := h2 (by simp)
    rw [insC_stop e]; rfl
  | x :: t, c, q + 1, hq, hs, h1, h2 => by
    obtain ⟨hs1, hs2⟩ := List.pairwise_cons.1 hs
    have hx : leC x c = true := by
      cases q with
      | zero => exact h1 (by omega)
      | succ q =>
        have e := h1 (by omega)
        simp only [Nat.add_sub_cancel, List.getElem_cons_succ] at e
        exact leC_trans (hs1 _ (List.getElem_mem _)) e
    rw [insC_go hx, List.take_succ_cons, List.drop_succ_cons, List.cons_append, ins_at t c q (by simpa using hq) hs2 (fun h => by
      have e := h1 (by omega)
      simp only [Nat.add_sub_cancel] at e
      cases q with
      | zero => omega
      | succ q => simpa using e) (fun h => by have e := h2 (by simpa using h); simpa using e)]

/-! ### two that meet -/
def meetC (a b : Ca) : Bool := (decide (loC a < hiC b) && decide (loC b < hiC a)) || ((decide (loC a = hiC b) || decide (loC b = hiC a)) && (decide (a.1 = a.2) || decide (b.1 = b.2)))
theorem meetC_iff {a b : Ca} : meetC a b = true ↔ (loC a < hiC b ∧ loC b < hiC a) ∨ ((loC a = hiC b ∨ loC b = hiC a) ∧ (loC a = hiC a ∨ loC b = hiC b)) := by
  unfold meetC; simp [none_iff]
theorem meetC_comm (a b : Ca) : meetC a b = meetC b a := by
  rw [Bool.eq_iff_iff, meetC_iff, meetC_iff]
  constructor <;> (intro h; omega)
def meetP (k c : Ca) : Bool := decide (loC c < hiC k) || (decide (loC c = hiC k) && !(!decide (c.1 = c.2) && !decide (k.1 = k.2)))
theorem meetP_eq {k c : Ca} (h : loC k ≤ loC c) : meetP k c = meetC k c := by
  have h1 := lo_le_hi k
  have h2 := lo_le_hi c
  rw [Bool.eq_iff_iff, meetC_iff]
  unfold meetP
  simp only [Bool.or_eq_true, Bool.and_eq_true, decide_eq_true_eq, Bool.not_eq_true', Bool.and_eq_false_iff, Bool.not_eq_false', none_iff]
  constructor <;> (intro h; omega)
def joinC (k c : Ca) : Ca := if k.2 < k.1 then (if hiC k < hiC c then hiC c else hiC k, loC k) else (loC k, if hiC k < hiC c then hiC c else hiC k)
theorem joinC_lo (k c : Ca) : loC (joinC k c) = loC k := by
  have h1 := lo_le_hi k
  unfold joinC
  have e : ∀ x, loC k ≤ x → loC (x, loC k) = loC k ∧ loC (loC k, x) = loC k := fun x hx => by
    have r1 : ∀ y : Int, y ≤ x → loC (x, y) = y ∧ loC (y, x) = y := fun y hy => by constructor <;> (simp only [loC]; split <;> omega)
    exact r1 _ hx
  split
  · exact (e _ (by split <;> omega)).1
  · exact (e _ (by split <;> omega)).2
theorem joinC_hi (k c : Ca) : hiC (joinC k c) = if hiC k < hiC c then hiC c else hiC k := by
  have h1 := lo_le_hi k
  unfold joinC
  have e : ∀ x, loC k ≤ x → hiC (x, loC k) = x ∧ hiC (loC k, x) = x := fun x hx => by
    have r1 : ∀ y : Int, y ≤ x → hiC (x, y) = x ∧ hiC (y, x) = x := fun y hy => by constructor <;> (simp only [hiC]; split <;> omega)
    exact r1 _ hx
  split
  · exact (e _ (by split <;> omega)).1
  · exact (e _ (by split <;> omega)).2
/-- one stands ahead of another and doesn't meet it -/
def aheadC (a b : Ca) : Prop := hiC a ≤ loC b ∧ (hiC a = loC b → loC a < hiC a ∧ loC b < hiC b)
theorem aheadC_trans {a b c : Ca} (h : aheadC a b) (k : aheadC b c) : aheadC a c := by
  obtain ⟨h1, h2⟩ := h
  obtain ⟨k1, k2⟩ := k
  have e1 := lo_le_hi a
  have e2 := lo_le_hi b
  have e3 := lo_le_hi c
  exact ⟨by omega, fun e => by have := h2 (by omega); omega⟩
theorem aheadC_meet {a b : Ca} (h : aheadC a b) : meetC a b = false := by
  obtain ⟨h1, h2⟩ := h
  have e1 := lo_le_hi a
  have e2 := lo_le_hi b
  rw [Bool.eq_false_iff, ne_eq, meetC_iff]
  by_cases e : hiC a = loC b
  · have := h2 e; omega
  · omega
theorem aheadC_le {a b : Ca} (h : aheadC a b) : leC a b = true := by
  obtain ⟨h1, h2⟩ := h
  have e1 := lo_le_hi a
  rw [leC_iff]
  by_cases e : hiC a = loC b
  · have := h2 e; omega
  · omega
theorem ahead_of {k c : Ca} (h : loC k ≤ loC c) (hm : meetC k c = false) : aheadC k c := by
  have e1 := lo_le_hi k
  have e2 := lo_le_hi c
  rw [Bool.eq_false_iff, ne_eq, meetC_iff] at hm
  exact ⟨by omega, fun e => by omega⟩

/-! ### Tidy -/
def stepC (out : Qs) (c : Ca) : Qs := match out.getLast? with
  | none => [c]
  | some k => if meetC k c = true then out.dropLast ++ [joinC k c] else out ++ [c]
def foldC (s : Qs) : Qs := s.foldl stepC []
def tidyC (l : Qs) : Qs := foldC (sortC l)
theorem stepC_nil (c : Ca) : stepC [] c = [c] := rfl
theorem stepC_meet {o : Qs} {k c : Ca} (h : meetC k c = true) : stepC (o ++ [k]) c = o ++ [joinC k c] := by unfold stepC; simp [h]
theorem stepC_new {o : Qs} {k c : Ca} (h : meetC k c = false) : stepC (o ++ [k]) c = o ++ [k] ++ [c] := by unfold stepC; simp [h]
theorem foldC_take {s : Qs} {j : Nat} (h : j < s.length) : foldC (s.take (j + 1)) = stepC (foldC (s.take j)) s[j] := by
  unfold foldC; rw [List.take_succ_eq_append_getElem h, List.foldl_append]; rfl
def hasC (c : Ca) (p : Int) : Prop := loC c ≤ p ∧ p < hiC c
/-- what is known of what became of those of s -/
structure TidyInv (out s : Qs) : Prop where
  row : out.Pairwise aheadC
  low : ∀ x ∈ out, ∃ c ∈ s, loC x = loC c
  high : ∀ x ∈ out, ∃ c ∈ s, hiC x = hiC c
  some_ : out = [] ↔ s = []
  has : ∀ c ∈ s, ∀ p, hasC c p → ∃ x ∈ out, hasC x p
  len : out.length ≤ s.length
theorem last_two (K : Qs) : K = [] ∨ ∃ K0 k, K = K0 ++ [k] := by
  rcases List.eq_nil_or_concat K with h | ⟨K0, k, h⟩
  · exact .inl h
  · exact .inr ⟨K0, k, by rw [h, List.concat_eq_append]⟩
theorem TidyInv.step {out s : Qs} {c : Ca} (h : TidyInv out s) (hc : ∀ x ∈ s, loC x ≤ loC c) : TidyInv (stepC out c) (s ++ [c]) := by
  rcases last_two out with rfl | ⟨o, k, rfl⟩
  · have hs := h.some_.1 rfl
    subst hs
    rw [stepC_nil]
    exact ⟨List.pairwise_singleton _ _, fun x hx => ⟨c, by simp, by simp at hx; rw [hx]⟩, fun x hx => ⟨c, by simp, by simp at hx; rw [hx]⟩, by simp, fun x hx p hp => by simp at hx; exact ⟨c, by simp, by rw [← hx]; exact hp⟩, by simp⟩
  · obtain ⟨r1, r2, r3⟩ := List.pairwise_append.1 h.row
    have hk : loC k ≤ loC c := by
      obtain ⟨d, hd, e⟩ := h.low k (by simp)
      have := hc d hd
      omega
    cases hm : meetC k c with
    | true =>
      rw [stepC_meet hm]
      have e1 := joinC_lo k c
      have e2 := joinC_hi k c
      have e3 := lo_le_hi k
      refine ⟨List.pairwise_append.2 ⟨r1, List.pairwise_singleton _ _, fun a ha b hb => ?_⟩, fun x hx => ?_, fun x hx => ?_, by simp, fun x hx p hp => ?_, by have := h.len; simp at this ⊢; omega⟩
      · rw [List.mem_singleton] at hb
        subst hb
        obtain ⟨q1, q2⟩ := r3 a ha k (by simp)
        refine ⟨by rw [e1]; exact q1, fun e => ?_⟩
        rw [e1] at e ⊢
        have := q2 e
        refine ⟨this.1, ?_⟩
        rw [e2]; split <;> omega
      · rcases List.mem_append.1 hx with hx | hx
        · obtain ⟨d, hd, e⟩ := h.low x (by simp [hx]); exact ⟨d, by simp [hd], e⟩
        · rw [List.mem_singleton] at hx
          subst hx
          obtain ⟨d, hd, e⟩ := h.low k (by simp)
          exact ⟨d, by simp [hd], by rw [e1]; exact e⟩
      · rcases List.mem_append.1 hx with hx | hx
        · obtain ⟨d, hd, e⟩ := h.high x (by simp [hx]); exact ⟨d, by simp [hd], e⟩
        · rw [List.mem_singleton] at hx
          subst hx
          rw [e2]
          split
          · exact ⟨c, by simp, rfl⟩
          · obtain ⟨d, hd, e⟩ := h.high k (by simp); exact ⟨d, by simp [hd], e⟩
      · have hj : ∀ q, hasC k q ∨ hasC c q → hasC (joinC k c) q := fun q hq => by
          unfold hasC at hq ⊢
          rw [e1, e2]
          split <;> omega
        rcases List.mem_append.1 hx with hx | hx
        · obtain ⟨y, hy, hy2⟩ := h.has x hx p hp
          rcases List.mem_append.1 hy with hy | hy
          · exact ⟨y, by simp [hy], hy2⟩
          · rw [List.mem_singleton] at hy
            subst hy
            exact ⟨_, by simp, hj p (.inl hy2)⟩
        · rw [List.mem_singleton] at hx
          subst hx
          exact ⟨_, by simp, hj p (.inr hp)⟩
    | false =>
      rw [stepC_new hm]
      refine ⟨List.pairwise_append.2 ⟨h.row, List.pairwise_singleton _ _, fun a ha b hb => ?_⟩, fun x hx => ?_, fun x hx => ?_, by simp, fun x hx p hp => ?_, by have := h.len; simp at this ⊢; omega⟩
      · rw [List.mem_singleton] at hb
        subst hb
        have hkb := ahead_of hk hm
        rcases List.mem_append.1 ha with ha | ha
        · exact aheadC_trans (r3 a ha k (by simp)) hkb
        · rw [List.mem_singleton] at ha
          subst ha
          exact hkb
      · rcases List.mem_append.1 hx with hx | hx
        · obtain ⟨d, hd, e⟩ := h.low x hx; exact ⟨d, by simp [hd], e⟩
        · exact ⟨c, by simp, by simp at hx; rw [hx]⟩
      · rcases List.mem_append.1 hx with hx | hx
        · obtain ⟨d, hd, e⟩ := h.high x hx; exact ⟨d, by simp [hd], e⟩
        · exact ⟨c, by simp, by simp at hx; rw [hx]⟩
      · rcases List.mem_append.1 hx with hx | hx
        · obtain ⟨y, hy, hy2⟩ := h.has x hx p hp; exact ⟨y, List.mem_append_left _ hy, hy2⟩
        · rw [List.mem_singleton] at hx
          subst hx
          exact ⟨x, by simp, hp⟩
theorem tidy_inv (s : Qs) (hs : SortedC s) : ∀ j, j ≤ s.length → TidyInv (foldC (s.take j)) (s.take j)
  | 0, _ => by
    rw [List.take_zero]
    exact ⟨List.Pairwise.nil, fun x hx => (List.not_mem_nil hx).elim, fun x hx => (List.not_mem_nil hx).elim, by simp [foldC], fun x hx => (List.not_mem_nil hx).elim, Nat.le_refl _⟩
  | j + 1, hj => by
    rw [foldC_take hj, List.take_succ_eq_append_getElem hj]
    refine (tidy_inv s hs j (by omega)).step (fun x hx => ?_)
    have h2 := List.pairwise_iff_getElem.1 hs
    obtain ⟨i, hi, rfl⟩ := List.mem_take_iff_getElem.1 hx
    have := leC_iff.1 (h2 i j (by omega) hj (by omega))
    omega
/-- the last one by then lies no farther on than the next -/
theorem tidy_low {s : Qs} (hs : SortedC s) {j : Nat} (hj : j < s.length) {x : Ca} (hx : x ∈ foldC (s.take j)) : loC x ≤ loC s[j] := by
  obtain ⟨c, hc, e⟩ := (tidy_inv s hs j (by omega)).low x hx
  obtain ⟨i, hi, rfl⟩ := List.mem_take_iff_getElem.1 hc
  have := leC_iff.1 (List.pairwise_iff_getElem.1 hs i j (by omega) hj (by omega))
  omega
theorem tidyC_inv (l : Qs) : TidyInv (tidyC l) (sortC l) := by
  have h := tidy_inv (sortC l) (sortC_sorted l) _ (Nat.le_refl _)
  rw [List.take_length] at h
  exact h
theorem tidyC_len (l : Qs) : (tidyC l).length ≤ l.length := by have := (tidyC_inv l).len; rwa [sortC_len] at this
theorem tidyC_nil {l : Qs} : tidyC l = [] ↔ l = [] := by
  rw [(tidyC_inv l).some_]
  constructor
  · intro h
    have := sortC_len l
    rw [h] at this
    exact List.eq_nil_of_length_eq_zero this.symm
  · rintro rfl; rfl
theorem ahead_sorted {x : Qs} (h : x.Pairwise aheadC) : SortedC x := h.imp aheadC_le
theorem foldC_ahead {x : Qs} (h : x.Pairwise aheadC) : ∀ j, j ≤ x.length → foldC (x.take j) = x.take j
  | 0, _ => rfl
  | j + 1, hj => by
    rw [foldC_take hj, foldC_ahead h j (by omega), List.take_succ_eq_append_getElem hj]
    cases j with
    | zero => rfl
    | succ j =>
      rw [List.take_succ_eq_append_getElem (show j < x.length by omega)]
      exact stepC_new (aheadC_meet (List.pairwise_iff_getElem.1 h j (j + 1) (by omega) hj (by omega)))
theorem tidyC_self {x : Qs} (h : x.Pairwise aheadC) : tidyC x = x := by
  unfold tidyC
  rw [sortC_self (ahead_sorted h)]
  have := foldC_ahead h x.length (Nat.le_refl _)
  rwa [List.take_length] at this
theorem tidyC_twice (l : Qs) : tidyC (tidyC l) = tidyC l := tidyC_self (tidyC_inv l).row
theorem tidyC_apart {l : Qs} {i k : Nat} (hi : i < (tidyC l).length) (hk : k < i) : meetC (tidyC l)[i] ((tidyC l)[k]'(by omega)) = false := by
  rw [meetC_comm]
  exact aheadC_meet (List.pairwise_iff_getElem.1 (tidyC_inv l).row k i (by omega) hi hk)
def chosenC (l : Qs) (p : Int) : Bool := l.any fun c => decide (loC c ≤ p) && decide (p < hiC c)
theorem chosenC_iff {l : Qs} {p : Int} : chosenC l p = true ↔ ∃ c ∈ l, hasC c p := by unfold chosenC hasC; simp
theorem tidyC_chosen {l : Qs} {p : Int} (h : chosenC l p = true) : chosenC (tidyC l) p = true := by
  obtain ⟨c, hc, hp⟩ := chosenC_iff.1 h
  obtain ⟨x, hx, hx2⟩ := (tidyC_inv l).has c ((sortC_mem l c).2 hc) p hp
  exact chosenC_iff.2 ⟨x, hx, hx2⟩
def withinC (l : Qs) (n : Int) : Bool := l.all fun c => decide (0 ≤ loC c) && decide (hiC c ≤ n)
theorem withinC_iff {l : Qs} {n : Int} : withinC l n = true ↔ ∀ c ∈ l, 0 ≤ loC c ∧ hiC c ≤ n := by unfold withinC; simp
theorem tidyC_within {l : Qs} {n : Int} (h : withinC l n = true) : withinC (tidyC l) n = true := by
  rw [withinC_iff] at *
  intro x hx
  obtain ⟨c, hc, e⟩ := (tidyC_inv l).low x hx
  obtain ⟨d, hd, e2⟩ := (tidyC_inv l).high x hx
  have h1 := h c ((sortC_mem l c).1 hc)
  have h2 := h d ((sortC_mem l d).1 hd)
  omega
theorem within_ends {l : Qs} {n : Int} : withinC l n = true ↔ ∀ c ∈ l, 0 ≤ c.1 ∧ 0 ≤ c.2 ∧ c.1 ≤ n ∧ c.2 ≤ n := by
  rw [withinC_iff]
  have e : ∀ c : Ca, (0 ≤ loC c ∧ hiC c ≤ n) ↔ 0 ≤ c.1 ∧ 0 ≤ c.2 ∧ c.1 ≤ n ∧ c.2 ≤ n := fun c => by unfold loC hiC; split <;> split <;> omega
  exact ⟨fun h c hc => (e c).1 (h c hc), fun h c hc => (e c).2 (h c hc)⟩
def goodC (l : Qs) (n : Int) : Bool := decide (0 < l.length) && (withinC l n && decide (l = tidyC l))
/-- the ends of each brought to where f tells, and tidied -/
def movedC (f : Int → Int) (l : Qs) : Qs := tidyC (l.map fun c => (f c.1, f c.2))
theorem movedC_good {f : Int → Int} {l : Qs} {n m : Int} (hl : 0 < l.length) (hw : withinC l n = true) (hf : ∀ p, 0 ≤ p → p ≤ n → 0 ≤ f p ∧ f p ≤ m) : goodC (movedC f l) m = true := by
  unfold goodC movedC
  have h0 : 0 < (tidyC (l.map fun c => (f c.1, f c.2))).length := by
    rcases Nat.eq_zero_or_pos (tidyC (l.map fun c => (f c.1, f c.2))).length with h | h
    · have := tidyC_nil.1 (List.eq_nil_of_length_eq_zero h)
      have := List.map_eq_nil_iff.1 this
      rw [this] at hl
      simp at hl
    · exact h
  have h1 : withinC (tidyC (l.map fun c => (f c.1, f c.2))) m = true := tidyC_within (by
    rw [within_ends] at *
    intro c hc
    obtain ⟨d, hd, rfl⟩ := List.mem_map.1 hc
    obtain ⟨q1, q2, q3, q4⟩ := hw d hd
    have a1 := hf d.1 q1 q3
    have a2 := hf d.2 q2 q4
    exact ⟨a1.1, a2.1, a1.2, a2.2⟩)
  rw [h1, decide_eq_true h0, tidyC_twice]
  simp
/-- what is chosen, of tidy carets -/
def spanC (c : Ca) : Option (Int × Int) := if c.1 = c.2 then none else some (loC c, hiC c)
def spansC (l : Qs) : Qs := (tidyC l).filterMap spanC
end Go.Proofs.YtkobnijjahpifaaDoor
