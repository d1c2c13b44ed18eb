/- rope: the maths: where line feeds stand; trees of pieces; what the program's functions make of them. -/
import Derived.Test.YtiicaldnegcdiaaGreatNums
namespace Go.Proofs.YtiicaldnegcdiaaGreat
set_option linter.unusedSimpArgs false
set_option linter.unusedVariables false
set_option linter.unusedSectionVars false

/-- where the line feeds of a text stand, the first byte being at i -/
def feN (i : Int) : List Int → List Int
  | [] => []
  | x :: t => if x = 10 then i :: feN (i + 1) t else feN (i + 1) t
theorem feN_append : ∀ (a b : List Int) (i : Int), feN i (a ++ b) = feN i a ++ feN (i + a.length) b
  | [], b, i => by simp [feN]
  | x :: a, b, i => by
    rw [List.cons_append, feN, feN, feN_append a b (i + 1), List.length_cons, show i + 1 + (a.length : Int) = i + ((a.length + 1 : Nat) : Int) by omega]
    split <;> simp
theorem feN_shift (d : Int) : ∀ (a : List Int) (i : Int), feN (i + d) a = (feN i a).map (· + d)
  | [], i => rfl
  | x :: a, i => by
    rw [feN, feN, show i + d + 1 = i + 1 + d by omega, feN_shift d a (i + 1)]
    split <;> simp
theorem feN_base (a : List Int) (i : Int) : feN i a = (feN 0 a).map (· + i) := by
  have := feN_shift i a 0
  rwa [Int.zero_add] at this
theorem feN_mem : ∀ (a : List Int) (i x : Int), x ∈ feN i a → i ≤ x ∧ x < i + a.length
  | [], i, x, h => by cases h
  | y :: a, i, x, h => by
    rw [feN] at h
    rw [List.length_cons]
    split at h
    · rcases List.mem_cons.1 h with rfl | h
      · omega
      · have := feN_mem a (i + 1) x h; omega
    · have := feN_mem a (i + 1) x h; omega
theorem feN_sorted : ∀ (a : List Int) (i : Int), (feN i a).Pairwise (· < ·)
  | [], i => by simp [feN]
  | y :: a, i => by
    rw [feN]
    split
    · exact List.pairwise_cons.2 ⟨fun x hx => by have := feN_mem a _ x hx; omega, feN_sorted a _⟩
    · exact feN_sorted a _
theorem feN_length (a : List Int) (i : Int) : (feN i a).length = (feN 0 a).length := by rw [feN_base, List.length_map]
theorem feN_le : ∀ (a : List Int) (i : Int), (feN i a).length ≤ a.length
  | [], i => by simp [feN]
  | y :: a, i => by
    have := feN_le a (i + 1)
    rw [feN]
    split <;> simp <;> omega
/-- at each of these places stands a line feed -/
theorem feN_at : ∀ (a : List Int) (i : Int) (k : Nat) (h : k < (feN i a).length), ∃ j : Nat, ∃ hj : j < a.length, (feN i a)[k] = i + j ∧ a[j] = 10
  | [], i, k, h => by simp [feN] at h
  | y :: a, i, k, h => by
    by_cases hy : y = 10
    · have e : feN i (y :: a) = i :: feN (i + 1) a := by rw [feN, if_pos hy]
      cases k with
      | zero => exact ⟨0, by simp, by simp [e], by simpa using hy⟩
      | succ k =>
        simp only [e, List.length_cons] at h
        obtain ⟨j, hj, h1, h2⟩ := feN_at a (i + 1) k (by omega)
        refine ⟨j + 1, by simp; omega, ?_, by simpa using h2⟩
        simp only [e, List.getElem_cons_succ, h1]; omega
    · have e : feN i (y :: a) = feN (i + 1) a := by rw [feN, if_neg hy]
      simp only [e] at h
      obtain ⟨j, hj, h1, h2⟩ := feN_at a (i + 1) k h
      refine ⟨j + 1, by simp; omega, ?_, by simpa using h2⟩
      simp only [e, h1]; omega
/-- how many places of a rising list lie below x -/
def below (x : Int) (l : List Int) : Nat := (l.takeWhile (fun y => decide (y < x))).length
theorem below_append (x : Int) (a b : List Int) (ha : ∀ y ∈ a, y < x) (hb : ∀ y ∈ b, x ≤ y) : below x (a ++ b) = a.length := by
  unfold below
  rw [List.takeWhile_append_of_pos (by simpa using ha)]
  cases b with
  | nil => simp
  | cons y b =>
    have := hb y (by simp)
    rw [List.takeWhile_cons_of_neg (by simp; omega)]; simp
theorem feN_split (b : List Int) (i : Int) (n : Nat) : feN i b = feN i (b.take n) ++ feN (i + (b.take n).length) (b.drop n) := by
  conv => lhs; rw [← List.take_append_drop n b]
  rw [feN_append]
theorem feN_below (b : List Int) (i : Int) (n : Nat) (hn : n ≤ b.length) : below (i + n) (feN i b) = (feN i (b.take n)).length := by
  have hl : (b.take n).length = n := by rw [List.length_take]; omega
  rw [feN_split b i n, below_append]
  · intro y hy
    have := feN_mem _ _ _ hy
    omega
  · intro y hy
    have := feN_mem _ _ _ hy
    omega
theorem feN_drop (b : List Int) (i : Int) (n : Nat) (hn : n ≤ b.length) : (feN i b).drop (feN i (b.take n)).length = feN (i + n) (b.drop n) := by
  have hl : (b.take n).length = n := by rw [List.length_take]; omega
  rw [feN_split b i n, List.drop_left, hl]
theorem feN_take (b : List Int) (i : Int) (n : Nat) : (feN i b).take (feN i (b.take n)).length = feN i (b.take n) := by
  conv => lhs; rw [feN_split b i n]
  rw [List.take_left]

/-! ### pieces and trees -/
structure Pc where
  b : List Int
  base : Int
def Pc.fs (p : Pc) : List Int := feN p.base p.b
/-- the piece from f on, ahead of t -/
def Pc.cut (p : Pc) (f t : Nat) : Pc := ⟨(p.b.drop f).take (t - f), p.base + f⟩
/-- a piece that may be: it has bytes, and its places are small numbers -/
def Pc.Fair (p : Pc) : Prop := 0 < p.b.length ∧ 0 ≤ p.base ∧ p.base + p.b.length ≤ 90000 ∧ ∀ x ∈ p.b, 0 ≤ x ∧ x ≤ 255
theorem Pc.Fair.cut {p : Pc} (h : p.Fair) {f t : Nat} (hf : f < t) (ht : t ≤ p.b.length) : (p.cut f t).Fair := by
  obtain ⟨h1, h2, h3, h4⟩ := h
  unfold Pc.Fair Pc.cut
  simp only [List.length_take, List.length_drop]
  exact ⟨by omega, by omega, by omega, fun x hx => h4 x (List.mem_of_mem_drop (List.mem_of_mem_take hx))⟩
inductive Tr where
  | nil
  | node (l : Tr) (p : Pc) (r : Tr)
namespace Tr
def len : Tr → Nat
  | nil => 0
  | node l p r => l.len + p.b.length + r.len
def nf : Tr → Nat
  | nil => 0
  | node l p r => l.nf + p.fs.length + r.nf
def np : Tr → Nat
  | nil => 0
  | node l _ r => l.np + 1 + r.np
def lev : Tr → Nat
  | nil => 0
  | node l _ r => 1 + max l.lev r.lev
def ps : Tr → List Pc
  | nil => []
  | node l p r => l.ps ++ p :: r.ps
def bs : Tr → List Int
  | nil => []
  | node l p r => l.bs ++ (p.b ++ r.bs)
/-- neither part is more than two levels deeper -/
def Even : Tr → Prop
  | nil => True
  | node l _ r => l.lev ≤ r.lev + 2 ∧ r.lev ≤ l.lev + 2 ∧ l.Even ∧ r.Even
def Fair : Tr → Prop
  | nil => True
  | node l p r => l.Fair ∧ p.Fair ∧ r.Fair
theorem len_bs : ∀ t : Tr, t.bs.length = t.len
  | nil => rfl
  | node l p r => by rw [bs, len, List.length_append, List.length_append, len_bs l, len_bs r]; omega
theorem nf_bs : ∀ t : Tr, (feN 0 t.bs).length = t.nf
  | nil => rfl
  | node l p r => by
    rw [bs, nf, feN_append, feN_append, List.length_append, List.length_append, nf_bs l, feN_length p.b, feN_length r.bs, nf_bs r, Pc.fs, feN_length p.b p.base]; omega
theorem bs_ps : ∀ t : Tr, t.bs = t.ps.flatMap Pc.b
  | nil => rfl
  | node l p r => by rw [bs, ps, List.flatMap_append, List.flatMap_cons, bs_ps l, bs_ps r]
theorem fair_ps : ∀ t : Tr, t.Fair ↔ ∀ p ∈ t.ps, p.Fair
  | nil => by simp [Fair, ps]
  | node l p r => by
    simp only [Fair, ps, fair_ps l, fair_ps r, List.mem_append, List.mem_cons]
    constructor
    · rintro ⟨h1, h2, h3⟩ q (h | rfl | h)
      · exact h1 q h
      · exact h2
      · exact h3 q h
    · intro h
      exact ⟨fun q hq => h q (.inl hq), h p (.inr (.inl rfl)), fun q hq => h q (.inr (.inr hq))⟩
theorem nf_le : ∀ t : Tr, t.nf ≤ t.len
  | nil => Nat.le_refl _
  | node l p r => by
    have h1 := nf_le l
    have h2 := nf_le r
    have h3 := feN_le p.b p.base
    unfold nf len Pc.fs; omega
theorem np_le : ∀ t : Tr, t.Fair → t.np ≤ t.len
  | nil, _ => Nat.le_refl _
  | node l p r, h => by
    have h1 := np_le l h.1
    have h2 := np_le r h.2.2
    have h3 := h.2.1.1
    unfold np len; omega
theorem lev_le : ∀ t : Tr, t.lev ≤ t.np
  | nil => Nat.le_refl _
  | node l p r => by
    have h1 := lev_le l
    have h2 := lev_le r
    unfold np lev; omega

/-! ### turned, joined, parted -/
def turnR : Tr → Pc → Tr → Tr
  | node a q (node b s c), p, r => if (node b s c).lev ≤ a.lev then node a q (node (node b s c) p r) else node (node a q b) s (node c p r)
  | node a q nil, p, r => node a q (node nil p r)
  | nil, p, r => node nil p r
def turnL (l : Tr) (p : Pc) : Tr → Tr
  | node (node b s c) q a => if (node b s c).lev ≤ a.lev then node (node l p (node b s c)) q a else node (node l p b) s (node c q a)
  | node nil q a => node (node l p nil) q a
  | nil => node l p nil
def even (l : Tr) (p : Pc) (r : Tr) : Tr := if r.lev + 2 < l.lev then turnR l p r else if l.lev + 2 < r.lev then turnL l p r else node l p r
theorem turnR_node (a b c r : Tr) (q s p : Pc) : turnR (node a q (node b s c)) p r = if (node b s c).lev ≤ a.lev then node a q (node (node b s c) p r) else node (node a q b) s (node c p r) := rfl
theorem turnL_node (a b c l : Tr) (q s p : Pc) : turnL l p (node (node b s c) q a) = if (node b s c).lev ≤ a.lev then node (node l p (node b s c)) q a else node (node l p b) s (node c q a) := rfl
theorem ps_turnR (l : Tr) (p : Pc) (r : Tr) : (turnR l p r).ps = l.ps ++ p :: r.ps := by
  match l with
  | nil => simp [turnR, ps]
  | node a q nil => simp [turnR, ps]
  | node a q (node b s c) => rw [turnR_node]; split <;> simp [ps]
theorem ps_turnL (l : Tr) (p : Pc) (r : Tr) : (turnL l p r).ps = l.ps ++ p :: r.ps := by
  match r with
  | nil => simp [turnL, ps]
  | node nil q a => simp [turnL, ps]
  | node (node b s c) q a => rw [turnL_node]; split <;> simp [ps]
theorem ps_even (l : Tr) (p : Pc) (r : Tr) : (even l p r).ps = l.ps ++ p :: r.ps := by
  unfold even
  split
  · exact ps_turnR l p r
  · split
    · exact ps_turnL l p r
    · rfl
theorem even_even (l : Tr) (p : Pc) (r : Tr) (hl : l.Even) (hr : r.Even) (h1 : l.lev ≤ r.lev + 3) (h2 : r.lev ≤ l.lev + 3) :
    (even l p r).Even ∧ (l.lev ≤ r.lev + 2 → r.lev ≤ l.lev + 2 → (even l p r).lev = 1 + max l.lev r.lev) ∧ max l.lev r.lev ≤ (even l p r).lev ∧ (even l p r).lev ≤ 1 + max l.lev r.lev := by
  unfold even
  split
  · rename_i hc
    match l, hl with
    | nil, _ => simp [lev] at hc
    | node a q nil, hl =>
      simp only [Even, lev] at hl hc h1
      refine ⟨⟨?_, ?_, hl.2.2.1, ?_, ?_, trivial, hr⟩, fun _ _ => ?_, ?_, ?_⟩ <;> simp only [turnR, lev] at * <;> omega
    | node a q (node b s c), hl =>
      simp only [Even, lev] at hl hc h1 ⊢
      rw [turnR_node]
      split
      · rename_i h
        simp only [lev] at h
        refine ⟨?_, ?_⟩
        · simp only [Even, lev]
          refine ⟨?_, ?_, hl.2.2.1, ?_, ?_, hl.2.2.2, hr⟩ <;> omega
        · simp only [lev]; omega
      · rename_i h
        simp only [lev] at h
        refine ⟨?_, ?_⟩
        · simp only [Even, lev]
          refine ⟨?_, ?_, ⟨?_, ?_, hl.2.2.1, hl.2.2.2.2.2.1⟩, ?_, ?_, hl.2.2.2.2.2.2, hr⟩ <;> omega
        · simp only [lev]; omega
  · rename_i hc
    split
    · rename_i hd
      match r, hr with
      | nil, _ => simp [lev] at hd
      | node nil q a, hr =>
        simp only [Even, lev] at hr hd h2
        refine ⟨⟨?_, ?_, ⟨?_, ?_, hl, trivial⟩, hr.2.2.2⟩, fun _ _ => ?_, ?_, ?_⟩ <;> simp only [turnL, lev] at * <;> omega
      | node (node b s c) q a, hr =>
        simp only [Even, lev] at hr hd h2 hc ⊢
        rw [turnL_node]
        split
        · rename_i h
          simp only [lev] at h
          refine ⟨?_, ?_⟩
          · simp only [Even, lev]
            refine ⟨?_, ?_, ⟨?_, ?_, hl, hr.2.2.1⟩, hr.2.2.2⟩ <;> omega
          · simp only [lev]; omega
        · rename_i h
          simp only [lev] at h
          refine ⟨?_, ?_⟩
          · simp only [Even, lev]
            refine ⟨?_, ?_, ⟨?_, ?_, hl, hr.2.2.1.2.2.1⟩, ?_, ?_, hr.2.2.1.2.2.2, hr.2.2.2⟩ <;> omega
          · simp only [lev]; omega
    · exact ⟨⟨by omega, by omega, hl, hr⟩, fun _ _ => by simp only [lev], by simp only [lev]; omega, by simp only [lev]; omega⟩
def join (l : Tr) (p : Pc) (r : Tr) : Tr :=
  if r.lev + 2 < l.lev then
    match l with
    | node a q b => even a q (join b p r)
    | nil => node nil p r
  else if l.lev + 2 < r.lev then
    match r with
    | node a q b => even (join l p a) q b
    | nil => node l p nil
  else node l p r
termination_by l.np + r.np
decreasing_by all_goals (simp only [np]; omega)
theorem join_left (a b : Tr) (q p : Pc) (r : Tr) (h : r.lev + 2 < (node a q b).lev) : join (node a q b) p r = even a q (join b p r) := by rw [join.eq_def, if_pos h]
theorem join_right (l : Tr) (a b : Tr) (q p : Pc) (h : ¬ (node a q b).lev + 2 < l.lev) (h2 : l.lev + 2 < (node a q b).lev) : join l p (node a q b) = even (join l p a) q b := by rw [join.eq_def, if_neg h, if_pos h2]
theorem join_tie (l : Tr) (p : Pc) (r : Tr) (h : ¬ r.lev + 2 < l.lev) (h2 : ¬ l.lev + 2 < r.lev) : join l p r = node l p r := by rw [join.eq_def, if_neg h, if_neg h2]
theorem join_ps : ∀ (n : Nat) (l : Tr) (p : Pc) (r : Tr), l.np + r.np ≤ n → (join l p r).ps = l.ps ++ p :: r.ps := by
  intro n
  induction n with
  | zero =>
    intro l p r h
    have h3 := lev_le l
    have h4 := lev_le r
    rw [join_tie _ _ _ (by omega) (by omega)]; rfl
  | succ n ih =>
    intro l p r h
    by_cases h1 : r.lev + 2 < l.lev
    · match l with
      | nil => simp [lev] at h1
      | node a q b =>
        rw [join_left _ _ _ _ _ h1, ps_even, ih b p r (by simp only [np] at h; omega)]
        simp [ps]
    · by_cases h2 : l.lev + 2 < r.lev
      · match r with
        | nil => simp [lev] at h2
        | node a q b =>
          rw [join_right _ _ _ _ _ h1 h2, ps_even, ih l p a (by simp only [np] at h; omega)]
          simp [ps]
      · rw [join_tie _ _ _ h1 h2]; rfl
theorem ps_join (l : Tr) (p : Pc) (r : Tr) : (join l p r).ps = l.ps ++ p :: r.ps := join_ps _ l p r (Nat.le_refl _)
theorem join_ev : ∀ (n : Nat) (l : Tr) (p : Pc) (r : Tr), l.np + r.np ≤ n → l.Even → r.Even → (join l p r).Even ∧ max l.lev r.lev ≤ (join l p r).lev ∧ (join l p r).lev ≤ 1 + max l.lev r.lev := by
  intro n
  induction n with
  | zero =>
    intro l p r h hl hr
    have h3 := lev_le l
    have h4 := lev_le r
    rw [join_tie _ _ _ (by omega) (by omega)]
    refine ⟨⟨by omega, by omega, hl, hr⟩, ?_⟩
    simp only [lev]; omega
  | succ n ih =>
    intro l p r h hl hr
    by_cases h1 : r.lev + 2 < l.lev
    · match l, hl with
      | nil, _ => simp [lev] at h1
      | node a q b, hl =>
        rw [join_left _ _ _ _ _ h1]
        obtain ⟨i1, i2, i3⟩ := ih b p r (by simp only [np] at h; omega) hl.2.2.2 hr
        obtain ⟨e1, e2, e3, e4⟩ := hl
        simp only [lev] at h1 ⊢
        obtain ⟨k1, k2, k3, k4⟩ := even_even a q (join b p r) e3 i1 (by omega) (by omega)
        refine ⟨k1, ?_, ?_⟩
        · by_cases hh : (join b p r).lev ≤ a.lev + 2
          · have := k2 (by omega) hh; omega
          · omega
        · omega
    · by_cases h2 : l.lev + 2 < r.lev
      · match r, hr with
        | nil, _ => simp [lev] at h2
        | node a q b, hr =>
          rw [join_right _ _ _ _ _ h1 h2]
          obtain ⟨i1, i2, i3⟩ := ih l p a (by simp only [np] at h; omega) hl hr.2.2.1
          obtain ⟨e1, e2, e3, e4⟩ := hr
          simp only [lev] at h2 ⊢
          obtain ⟨k1, k2, k3, k4⟩ := even_even (join l p a) q b i1 e4 (by omega) (by omega)
          refine ⟨k1, ?_, ?_⟩
          · by_cases hh : (join l p a).lev ≤ b.lev + 2
            · have := k2 hh (by omega); omega
            · omega
          · omega
      · rw [join_tie _ _ _ h1 h2]
        refine ⟨⟨by omega, by omega, hl, hr⟩, ?_⟩
        simp only [lev]; omega
theorem even_join (l : Tr) (p : Pc) (r : Tr) (hl : l.Even) (hr : r.Even) : (join l p r).Even := (join_ev _ l p r (Nat.le_refl _) hl hr).1
/-- all but the last piece, and the last one -/
def last : Tr → Tr × Pc
  | nil => (nil, ⟨[], 0⟩)
  | node a p nil => (a, p)
  | node a p (node b q c) => (even a p (last (node b q c)).1, (last (node b q c)).2)
theorem ps_last : ∀ t : Tr, t ≠ nil → t.ps = (last t).1.ps ++ [(last t).2]
  | nil, h => absurd rfl h
  | node a p nil, _ => by simp [last, ps]
  | node a p (node b q c), _ => by
    have := ps_last (node b q c) (by simp)
    rw [last, ps, this]
    simp [ps_even]
theorem even_last : ∀ t : Tr, t ≠ nil → t.Even → (last t).1.Even ∧ (last t).1.lev ≤ t.lev ∧ t.lev ≤ (last t).1.lev + 1
  | nil, h, _ => absurd rfl h
  | node a p nil, _, h => by
    simp only [last, lev]
    refine ⟨h.2.2.1, ?_, ?_⟩ <;> omega
  | node a p (node b q c), _, h => by
    obtain ⟨i1, i2, i3⟩ := even_last (node b q c) (by simp) h.2.2.2
    obtain ⟨e1, e2, e3, e4⟩ := h
    obtain ⟨k1, k2, k3, k4⟩ := even_even a p (last (node b q c)).1 e3 i1 (by omega) (by omega)
    rw [last]
    simp only [lev] at *
    refine ⟨k1, ?_, ?_⟩
    · omega
    · by_cases hh : a.lev ≤ (last (node b q c)).1.lev + 2
      · have := k2 hh (by omega); omega
      · omega
def meet (l r : Tr) : Tr := match l with
  | nil => r
  | node a p b => join (last (node a p b)).1 (last (node a p b)).2 r
theorem ps_meet (l r : Tr) : (meet l r).ps = l.ps ++ r.ps := by
  cases l with
  | nil => rfl
  | node a p b =>
    unfold meet
    rw [ps_join, ps_last (node a p b) (by simp)]
    simp
theorem even_meet (l r : Tr) (hl : l.Even) (hr : r.Even) : (meet l r).Even := by
  cases l with
  | nil => exact hr
  | node a p b => exact even_join _ _ _ (even_last _ (by simp) hl).1 hr
/-- what lies ahead of a place, and what behind -/
def split : Tr → Nat → Tr × Tr
  | nil, _ => (nil, nil)
  | node l p r, at_ =>
    if at_ ≤ l.len then ((split l at_).1, join (split l at_).2 p r)
    else if l.len + p.b.length ≤ at_ then (join l p (split r (at_ - (l.len + p.b.length))).1, (split r (at_ - (l.len + p.b.length))).2)
    else (join l (p.cut 0 (at_ - l.len)) nil, join nil (p.cut (at_ - l.len) p.b.length) r)
theorem even_split : ∀ (t : Tr) (i : Nat), t.Even → (split t i).1.Even ∧ (split t i).2.Even
  | nil, _, _ => ⟨trivial, trivial⟩
  | node l p r, i, h => by
    unfold split
    obtain ⟨e1, e2, e3, e4⟩ := h
    split
    · exact ⟨(even_split l i e3).1, even_join _ _ _ (even_split l i e3).2 e4⟩
    · split
      · exact ⟨even_join _ _ _ e3 (even_split r _ e4).1, (even_split r _ e4).2⟩
      · exact ⟨even_join _ _ _ e3 trivial, even_join _ _ _ trivial e4⟩
theorem fair_join {l r : Tr} {p : Pc} (hl : l.Fair) (hp : p.Fair) (hr : r.Fair) : (join l p r).Fair := by
  rw [fair_ps] at *
  rw [ps_join]
  intro q hq
  rcases List.mem_append.1 hq with h | h
  · exact hl q h
  · rcases List.mem_cons.1 h with rfl | h
    · exact hp
    · exact hr q h
theorem bs_join (l r : Tr) (p : Pc) : (join l p r).bs = l.bs ++ (p.b ++ r.bs) := by
  rw [bs_ps, ps_join, List.flatMap_append, List.flatMap_cons, bs_ps l, bs_ps r]
theorem len_join (l r : Tr) (p : Pc) : (join l p r).len = l.len + p.b.length + r.len := by
  rw [← len_bs, bs_join, List.length_append, List.length_append, len_bs, len_bs]; omega
theorem fair_even {l r : Tr} {p : Pc} (hl : l.Fair) (hp : p.Fair) (hr : r.Fair) : (even l p r).Fair := by
  rw [fair_ps] at *
  rw [ps_even]
  intro q hq
  rcases List.mem_append.1 hq with h | h
  · exact hl q h
  · rcases List.mem_cons.1 h with rfl | h
    · exact hp
    · exact hr q h
theorem len_even (l r : Tr) (p : Pc) : (even l p r).len = l.len + p.b.length + r.len := by
  rw [← len_bs, bs_ps, ps_even, List.flatMap_append, List.flatMap_cons, ← bs_ps l, ← bs_ps r, List.length_append, List.length_append, len_bs, len_bs]; omega
theorem fair_last {t : Tr} (ht : t ≠ nil) (h : t.Fair) : (last t).1.Fair ∧ (last t).2.Fair := by
  rw [fair_ps, ps_last t ht] at h
  exact ⟨(fair_ps _).2 fun q hq => h q (by simp [hq]), h _ (by simp)⟩
theorem len_last {t : Tr} (ht : t ≠ nil) : t.len = (last t).1.len + (last t).2.b.length := by
  rw [← len_bs t, bs_ps, ps_last t ht, List.flatMap_append, ← bs_ps, List.length_append, len_bs]; simp
theorem fair_meet {l r : Tr} (hl : l.Fair) (hr : r.Fair) : (meet l r).Fair := by
  rw [fair_ps] at *
  rw [ps_meet]
  intro q hq
  rcases List.mem_append.1 hq with h | h
  · exact hl q h
  · exact hr q h
theorem bs_meet (l r : Tr) : (meet l r).bs = l.bs ++ r.bs := by rw [bs_ps, ps_meet, List.flatMap_append, ← bs_ps, ← bs_ps]
theorem fair_split : ∀ (t : Tr) (i : Nat), t.Fair → (split t i).1.Fair ∧ (split t i).2.Fair
  | nil, _, _ => ⟨trivial, trivial⟩
  | node l p r, i, h => by
    unfold split
    obtain ⟨e1, e2, e3⟩ := h
    split
    · exact ⟨(fair_split l i e1).1, fair_join (fair_split l i e1).2 e2 e3⟩
    · split
      · exact ⟨fair_join e1 e2 (fair_split r _ e3).1, (fair_split r _ e3).2⟩
      · exact ⟨fair_join e1 (e2.cut (by omega) (by omega)) trivial, fair_join trivial (e2.cut (by omega) (Nat.le_refl _)) e3⟩
theorem bs_split : ∀ (t : Tr) (i : Nat), (split t i).1.bs = t.bs.take i ∧ (split t i).2.bs = t.bs.drop i
  | nil, _ => by simp [split, bs]
  | node l p r, i => by
    have hl := len_bs l
    unfold split
    split
    · rename_i h
      obtain ⟨i1, i2⟩ := bs_split l i
      refine ⟨?_, ?_⟩
      · rw [i1, bs, List.take_append_of_le_length (by omega)]
      · rw [bs_join, i2, bs, List.drop_append_of_le_length (by omega)]
    · split
      · rename_i h h2
        obtain ⟨i1, i2⟩ := bs_split r (i - (l.len + p.b.length))
        have e : i = (l.bs ++ p.b).length + (i - (l.len + p.b.length)) := by rw [List.length_append]; omega
        refine ⟨?_, ?_⟩
        · rw [bs_join, i1, bs, ← List.append_assoc, ← List.append_assoc]
          conv => rhs; rw [e]
          rw [List.take_length_add_append]
        · rw [i2, bs, ← List.append_assoc]
          conv => rhs; rw [e]
          rw [List.drop_length_add_append]
      · rename_i h h2
        have e : i = l.bs.length + (i - l.len) := by omega
        refine ⟨?_, ?_⟩
        · rw [bs_join]
          conv => rhs; rw [bs, e, List.take_length_add_append, List.take_append_of_le_length (by omega)]
          simp [Pc.cut, bs]
        · rw [bs_join]
          conv => rhs; rw [bs, e, List.drop_length_add_append, List.drop_append_of_le_length (by omega)]
          simp only [Pc.cut, bs, List.nil_append]
          rw [List.take_of_length_le (by rw [List.length_drop]; omega)]
theorem len_split (t : Tr) (i : Nat) (h : i ≤ t.len) : (split t i).1.len = i ∧ (split t i).2.len = t.len - i := by
  obtain ⟨h1, h2⟩ := bs_split t i
  rw [← len_bs, ← len_bs, h1, h2, List.length_take, List.length_drop, len_bs]; omega
theorem len_meet (l r : Tr) : (meet l r).len = l.len + r.len := by rw [← len_bs, bs_meet, List.length_append, len_bs, len_bs]
end Tr
end Go.Proofs.YtiicaldnegcdiaaGreat
