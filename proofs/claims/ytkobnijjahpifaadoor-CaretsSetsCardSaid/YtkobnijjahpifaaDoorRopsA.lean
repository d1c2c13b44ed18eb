/- rope: the maths: where line feeds stand; trees of pieces; what the program's functions make of them. rope: pieces and trees as they lie in memory; what is noted of a part, tied, told to be deeper: by contract. No condition but that a text is short. rope: what is to be noted of a piece between two parts; tied; told to be deeper; where a piece begins and ends: by contract. Texts of up to 90000 bytes. rope: where a piece begins and ends; parts turned, evened: by contract. rope: parts evened and joined, the last piece taken off, two parts side by side: by contract. rope: slices.BinarySearch at places; how many line feeds stand ahead in a piece, where one stands, a piece cut: by contract. -/
import Derived.Test.YtkobnijjahpifaaDoorNums
import Derived.Test.YtkobnijjahpifaaDoorWild
import Derived.Deep.QuietTactic
import Derived.BigQuiet
import Derived.Laws.StructEq
import Derived.Deep.LoopGhost
import Derived.BigRegion
namespace Go.Proofs.YtkobnijjahpifaaDoor
set_option linter.unusedSimpArgs false
set_option linter.unusedVariables false
set_option linter.unusedSectionVars false

/-- where the line feeds of a text stand, the first byte being at i -/
def feN (i : Int) : List Int → List Int
  | [] => []
  | x :: t => if x = 10 then i :: feN (i + 1) t else feN (i + 1) t
theorem feN_append : ∀ (a b : List Int) (i : Int), feN i (a ++ b) = feN i a ++ feN (i + a.length) b
  | [], b, i => by simp [feN]
  | x :: a, b, i => by
    rw [List.cons_append, feN, feN, feN_append a b (i + 1), List.length_cons, show i + 1 + (a.length : Int) = i + ((a.length + 1 : Nat) : Int) by omega]
    split <;> simp
theorem feN_shift (d : Int) : ∀ (a : List Int) (i : Int), feN (i + d) a = (feN i a).map (· + d)
  | [], i => rfl
  | x :: a, i => by
    rw [feN, feN, show i + d + 1 = i + 1 + d by omega, feN_shift d a (i + 1)]
    split <;> simp
theorem feN_base (a : List Int) (i : Int) : feN i a = (feN 0 a).map (· + i) := by
  have := feN_shift i a 0
  rwa [Int.zero_add] at this
theorem feN_mem : ∀ (a : List Int) (i x : Int), x ∈ feN i a → i ≤ x ∧ x < i + a.length
  | [], i, x, h => by cases h
  | y :: a, i, x, h => by
    rw [feN] at h
    rw [List.length_cons]
    split at h
    · rcases List.mem_cons.1 h with rfl | h
      · omega
      · have := feN_mem a (i + 1) x h; omega
    · have := feN_mem a (i + 1) x h; omega
theorem feN_sorted : ∀ (a : List Int) (i : Int), (feN i a).Pairwise (· < ·)
  | [], i => by simp [feN]
  | y :: a, i => by
    rw [feN]
    split
    · exact List.pairwise_cons.2 ⟨fun x hx => by have := feN_mem a _ x hx; omega, feN_sorted a _⟩
    · exact feN_sorted a _
theorem feN_length (a : List Int) (i : Int) : (feN i a).length = (feN 0 a).length := by rw [feN_base, List.length_map]
theorem feN_le : ∀ (a : List Int) (i : Int), (feN i a).length ≤ a.length
  | [], i => by simp [feN]
  | y :: a, i => by
    have := feN_le a (i + 1)
    rw [feN]
    split <;> simp <;> omega
/-- at each of these places stands a line feed -/
theorem feN_at : ∀ (a : List Int) (i : Int) (k : Nat) (h : k < (feN i a).length), ∃ j : Nat, ∃ hj : j < a.length, (feN i a)[k] = i + j ∧ a[j] = 10
  | [], i, k, h => by simp [feN] at h
  | y :: a, i, k, h => by
    by_cases hy : y = 10
    · have e : feN i (y :: a) = i :: feN (i + 1) a := by rw [feN, if_pos hy]
      cases k with
      | zero => exact ⟨0, by simp, by simp [e], by simpa using hy⟩
      | succ k =>
        simp only [e, List.length_cons] at h
        obtain ⟨j, hj, h1, h2⟩ := feN_at a (i + 1) k (by omega)
        refine ⟨j + 1, by simp; omega, ?_, by simpa using h2⟩
        simp only [e, List.getElem_cons_succ, h1]; omega
    · have e : feN i (y :: a) = feN (i + 1) a := by rw [feN, if_neg hy]
      simp only [e] at h
      obtain ⟨j, hj, h1, h2⟩ := feN_at a (i + 1) k h
      refine ⟨j + 1, by simp; omega, ?_, by simpa using h2⟩
      simp only [e, h1]; omega
/-- how many places of a rising list lie below x -/
def below (x : Int) (l : List Int) : Nat := (l.takeWhile (fun y => decide (y < x))).length
theorem below_append (x : Int) (a b : List Int) (ha : ∀ y ∈ a, y < x) (hb : ∀ y ∈ b, x ≤ y) : below x (a ++ b) = a.length := by
  unfold below
  rw [List.takeWhile_append_of_pos (by simpa using ha)]
  cases b with
  | nil => simp
  | cons y b =>
    have := hb y (by simp)
    rw [List.takeWhile_cons_of_neg (by simp; omega)]; simp
theorem feN_split (b : List Int) (i : Int) (n : Nat) : feN i b = feN i (b.take n) ++ feN (i + (b.take n).length) (b.drop n) := by
  conv => lhs; rw [← List.take_append_drop n b]
  rw [feN_append]
theorem feN_below (b : List Int) (i : Int) (n : Nat) (hn : n ≤ b.length) : below (i + n) (feN i b) = (feN i (b.take n)).length := by
  have hl : (b.take n).length = n := by rw [List.length_take]; omega
  rw [feN_split b i n, below_append]
  · intro y hy
    have := feN_mem _ _ _ hy
    omega
  · intro y hy
    have := feN_mem _ _ _ hy
    omega
theorem feN_drop (b : List Int) (i : Int) (n : Nat) (hn : n ≤ b.length) : (feN i b).drop (feN i (b.take n)).length = feN (i + n) (b.drop n) := by
  have hl : (b.take n).length = n := by rw [List.length_take]; omega
  rw [feN_split b i n, List.drop_left, hl]
theorem feN_take (b : List Int) (i : Int) (n : Nat) : (feN i b).take (feN i (b.take n)).length = feN i (b.take n) := by
  conv => lhs; rw [feN_split b i n]
  rw [List.take_left]

/-! ### pieces and trees -/
structure Pc where
  b : List Int
  base : Int
def Pc.fs (p : Pc) : List Int := feN p.base p.b
/-- the piece from f on, ahead of t -/
def Pc.cut (p : Pc) (f t : Nat) : Pc := ⟨(p.b.drop f).take (t - f), p.base + f⟩
/-- a piece that may be: it has bytes, and its places are small numbers -/
def Pc.Fair (p : Pc) : Prop := 0 < p.b.length ∧ 0 ≤ p.base ∧ p.base + p.b.length ≤ 90000 ∧ ∀ x ∈ p.b, 0 ≤ x ∧ x ≤ 255
theorem Pc.Fair.cut {p : Pc} (h : p.Fair) {f t : Nat} (hf : f < t) (ht : t ≤ p.b.length) : (p.cut f t).Fair := by
  obtain ⟨h1, h2, h3, h4⟩ := h
  unfold Pc.Fair Pc.cut
  simp only [List.length_take, List.length_drop]
  exact ⟨by omega, by omega, by omega, fun x hx => h4 x (List.mem_of_mem_drop (List.mem_of_mem_take hx))⟩
inductive Tr where
  | nil
  | node (l : Tr) (p : Pc) (r : Tr)
namespace Tr
def len : Tr → Nat
  | nil => 0
  | node l p r => l.len + p.b.length + r.len
def nf : Tr → Nat
  | nil => 0
  | node l p r => l.nf + p.fs.length + r.nf
def np : Tr → Nat
  | nil => 0
  | node l _ r => l.np + 1 + r.np
def lev : Tr → Nat
  | nil => 0
  | node l _ r => 1 + max l.lev r.lev
def ps : Tr → List Pc
  | nil => []
  | node l p r => l.ps ++ p :: r.ps
def bs : Tr → List Int
  | nil => []
  | node l p r => l.bs ++ (p.b ++ r.bs)
/-- neither part is more than two levels deeper -/
def Even : Tr → Prop
  | nil => True
  | node l _ r => l.lev ≤ r.lev + 2 ∧ r.lev ≤ l.lev + 2 ∧ l.Even ∧ r.Even
def Fair : Tr → Prop
  | nil => True
  | node l p r => l.Fair ∧ p.Fair ∧ r.Fair
theorem len_bs : ∀ t : Tr, t.bs.length = t.len
  | nil => rfl
  | node l p r => by rw [bs, len, List.length_append, List.length_append, len_bs l, len_bs r]; omega
theorem nf_bs : ∀ t : Tr, (feN 0 t.bs).length = t.nf
  | nil => rfl
  | node l p r => by
    rw [bs, nf, feN_append, feN_append, List.length_append, List.length_append, nf_bs l, feN_length p.b, feN_length r.bs, nf_bs r, Pc.fs, feN_length p.b p.base]; omega
theorem bs_ps : ∀ t : Tr, t.bs = t.ps.flatMap Pc.b
  | nil => rfl
  | node l p r => by rw [bs, ps, List.flatMap_append, List.flatMap_cons, bs_ps l, bs_ps r]
theorem fair_ps : ∀ t : Tr, t.Fair ↔ ∀ p ∈ t.ps, p.Fair
  | nil => by simp [Fair, ps]
  | node l p r => by
    simp only [Fair, ps, fair_ps l, fair_ps r, List.mem_append, List.mem_cons]
    constructor
    · rintro ⟨h1, h2, h3⟩ q (h | rfl | h)
      · exact h1 q h
      · exact h2
      · exact h3 q h
    · intro h
      exact ⟨fun q hq => h q (.inl hq), h p (.inr (.inl rfl)), fun q hq => h q (.inr (.inr hq))⟩
theorem nf_le : ∀ t : Tr, t.nf ≤ t.len
  | nil => Nat.le_refl _
  | node l p r => by
    have h1 := nf_le l
    have h2 := nf_le r
    have h3 := feN_le p.b p.base
    unfold nf len Pc.fs; omega
theorem np_le : ∀ t : Tr, t.Fair → t.np ≤ t.len
  | nil, _ => Nat.le_refl _
  | node l p r, h => by
    have h1 := np_le l h.1
    have h2 := np_le r h.2.2
    have h3 := h.2.1.1
    unfold np len; omega
theorem lev_le : ∀ t : Tr, t.lev ≤ t.np
  | nil => Nat.le_refl _
  | node l p r => by
    have h1 := lev_le l
    have h2 := lev_le r
    unfold np lev; omega

/-! ### turned, joined, parted -/
def turnR : Tr → Pc → Tr → Tr
  | node a q (node b s c), p, r => if (node b s c).lev ≤ a.lev then node a q (node (node b s c) p r) else node (node a q b) s (node c p r)
  | node a q nil, p, r => node a q (node nil p r)
  | nil, p, r => node nil p r
def turnL (l : Tr) (p : Pc) : Tr → Tr
  | node (node b s c) q a => if (node b s c).lev ≤ a.lev then node (node l p (node b s c)) q a else node (node l p b) s (node c q a)
  | node nil q a => node (node l p nil) q a
  | nil => node l p nil
def even (l : Tr) (p : Pc) (r : Tr) : Tr := if r.lev + 2 < l.lev then turnR l p r else if l.lev + 2 < r.lev then turnL l p r else node l p r
theorem turnR_node (a b c r : Tr) (q s p : Pc) : turnR (node a q (node b s c)) p r = if (node b s c).lev ≤ a.lev then node a q (node (node b s c) p r) else node (node a q b) s (node c p r) := rfl
theorem turnL_node (a b c l : Tr) (q s p : Pc) : turnL l p (node (node b s c) q a) = if (node b s c).lev ≤ a.lev then node (node l p (node b s c)) q a else node (node l p b) s (node c q a) := rfl
theorem ps_turnR (l : Tr) (p : Pc) (r : Tr) : (turnR l p r).ps = l.ps ++ p :: r.ps := by
  match l with
  | nil => simp [turnR, ps]
  | node a q nil => simp [turnR, ps]
  | node a q (node b s c) => rw [turnR_node]; split <;> simp [ps]
theorem ps_turnL (l : Tr) (p : Pc) (r : Tr) : (turnL l p r).ps = l.ps ++ p :: r.ps := by
  match r with
  | nil => simp [turnL, ps]
  | node nil q a => simp [turnL, ps]
  | node (node b s c) q a => rw [turnL_node]; split <;> simp [ps]
theorem ps_even (l : Tr) (p : Pc) (r : Tr) : (even l p r).ps = l.ps ++ p :: r.ps := by
  unfold even
  split
  · exact ps_turnR l p r
  · split
    · exact ps_turnL l p r
    · rfl
theorem even_even (l : Tr) (p : Pc) (r : Tr) (hl : l.Even) (hr : r.Even) (h1 : l.lev ≤ r.lev + 3) (h2 : r.lev ≤ l.lev + 3) :
    (even l p r).Even ∧ (l.lev ≤ r.lev + 2 → r.lev ≤ l.lev + 2 → (even l p r).lev = 1 + max l.lev r.lev) ∧ max l.lev r.lev ≤ (even l p r).lev ∧ (even l p r).lev ≤ 1 + max l.lev r.lev := by
  unfold even
  split
  · rename_i hc
    match l, hl with
    | nil, _ => simp [lev] at hc
    | node a q nil, hl =>
      simp only [Even, lev] at hl hc h1
      refine ⟨⟨?_, ?_, hl.2.2.1, ?_, ?_, trivial, hr⟩, fun _ _ => ?_, ?_, ?_⟩ <;> simp only [turnR, lev] at * <;> omega
    | node a q (node b s c), hl =>
      simp only [Even, lev] at hl hc h1 ⊢
      rw [turnR_node]
      split
      · rename_i h
        simp only [lev] at h
        refine ⟨?_, ?_⟩
        · simp only [Even, lev]
          refine ⟨?_, ?_, hl.2.2.1, ?_, ?_, hl.2.2.2, hr⟩ <;> omega
        · simp only [lev]; omega
      · rename_i h
        simp only [lev] at h
        refine ⟨?_, ?_⟩
        · simp only [Even, lev]
          refine ⟨?_, ?_, ⟨?_, ?_, hl.2.2.1, hl.2.2.2.2.2.1⟩, ?_, ?_, hl.2.2.2.2.2.2, hr⟩ <;> omega
        · simp only [lev]; omega
  · rename_i hc
    split
    · rename_i hd
      match r, hr with
      | nil, _ => simp [lev] at hd
      | node nil q a, hr =>
        simp only [Even, lev] at hr hd h2
        refine ⟨⟨?_, ?_, ⟨?_, ?_, hl, trivial⟩, hr.2.2.2⟩, fun _ _ => ?_, ?_, ?_⟩ <;> simp only [turnL, lev] at * <;> omega
      | node (node b s c) q a, hr =>
        simp only [Even, lev] at hr hd h2 hc ⊢
        rw [turnL_node]
        split
        · rename_i h
          simp only [lev] at h
          refine ⟨?_, ?_⟩
          · simp only [Even, lev]
            refine ⟨?_, ?_, ⟨?_, ?_, hl, hr.2.2.1⟩, hr.2.2.2⟩ <;> omega
          · simp only [lev]; omega
        · rename_i h
          simp only [lev] at h
          refine ⟨?_, ?_⟩
          · simp only [Even, lev]
            refine ⟨?_, ?_, ⟨?_, ?_, hl, hr.2.2.1.2.2.1⟩, ?_, ?_, hr.2.2.1.2.2.2, hr.2.2.2⟩ <;> omega
          · simp only [lev]; omega
    · exact ⟨⟨by omega, by omega, hl, hr⟩, fun _ _ => by simp only [lev], by simp only [lev]; omega, by simp only [lev]; omega⟩
def join (l : Tr) (p : Pc) (r : Tr) : Tr :=
  if r.lev + 2 < l.lev then
    match l with
    | node a q b => even a q (join b p r)
    | nil => node nil p r
  else if l.lev + 2 < r.lev then
    match r with
    | node a q b => even (join l p a) q b
    | nil => node l p nil
  else node l p r
termination_by l.np + r.np
decreasing_by all_goals (simp only [np]; omega)
theorem join_left (a b : Tr) (q p : Pc) (r : Tr) (h : r.lev + 2 < (node a q b).lev) : join (node a q b) p r = even a q (join b p r) := by rw [join.eq_def, if_pos h]
theorem join_right (l : Tr) (a b : Tr) (q p : Pc) (h : ¬ (node a q b).lev + 2 < l.lev) (h2 : l.lev + 2 < (node a q b).lev) : join l p (node a q b) = even (join l p a) q b := by rw [join.eq_def, if_neg h, if_pos h2]
theorem join_tie (l : Tr) (p : Pc) (r : Tr) (h : ¬ r.lev + 2 < l.lev) (h2 : ¬ l.lev + 2 < r.lev) : join l p r = node l p r := by rw [join.eq_def, if_neg h, if_neg h2]
theorem join_ps : ∀ (n : Nat) (l : Tr) (p : Pc) (r : Tr), l.np + r.np ≤ n → (join l p r).ps = l.ps ++ p :: r.ps := by
  intro n
  induction n with
  | zero =>
    intro l p r h
    have h3 := lev_le l
    have h4 := lev_le r
    rw [join_tie _ _ _ (by omega) (by omega)]; rfl
  | succ n ih =>
    intro l p r h
    by_cases h1 : r.lev + 2 < l.lev
    · match l with
      | nil => simp [lev] at h1
      | node a q b =>
        rw [join_left _ _ _ _ _ h1, ps_even, ih b p r (by simp only [np] at h; omega)]
        simp [ps]
    · by_cases h2 : l.lev + 2 < r.lev
      · match r with
        | nil => simp [lev] at h2
        | node a q b =>
          rw [join_right _ _ _ _ _ h1 h2, ps_even, ih l p a (by simp only [np] at h; omega)]
          simp [ps]
      · rw [join_tie _ _ _ h1 h2]; rfl
theorem ps_join (l : Tr) (p : Pc) (r : Tr) : (join l p r).ps = l.ps ++ p :: r.ps := join_ps _ l p r (Nat.le_refl _)
theorem join_ev : ∀ (n : Nat) (l : Tr) (p : Pc) (r : Tr), l.np + r.np ≤ n → l.Even → r.Even → (join l p r).Even ∧ max l.lev r.lev ≤ (join l p r).lev ∧ (join l p r).lev ≤ 1 + max l.lev r.lev := by
  intro n
  induction n with
  | zero =>
    intro l p r h hl hr
    have h3 := lev_le l
    have h4 := lev_le r
    rw [join_tie _ _ _ (by omega) (by omega)]
    refine ⟨⟨by omega, by omega, hl, hr⟩, ?_⟩
    simp only [lev]; omega
  | succ n ih =>
    intro l p r h hl hr
    by_cases h1 : r.lev + 2 < l.lev
    · match l, hl with
      | nil, _ => simp [lev] at h1
      | node a q b, hl =>
        rw [join_left _ _ _ _ _ h1]
        obtain ⟨i1, i2, i3⟩ := ih b p r (by simp only [np] at h; omega) hl.2.2.2 hr
        obtain ⟨e1, e2, e3, e4⟩ := hl
        simp only [lev] at h1 ⊢
        obtain ⟨k1, k2, k3, k4⟩ := even_even a q (join b p r) e3 i1 (by omega) (by omega)
        refine ⟨k1, ?_, ?_⟩
        · by_cases hh : (join b p r).lev ≤ a.lev + 2
          · have := k2 (by omega) hh; omega
          · omega
        · omega
    · by_cases h2 : l.lev + 2 < r.lev
      · match r, hr with
        | nil, _ => simp [lev] at h2
        | node a q b, hr =>
          rw [join_right _ _ _ _ _ h1 h2]
          obtain ⟨i1, i2, i3⟩ := ih l p a (by simp only [np] at h; omega) hl hr.2.2.1
          obtain ⟨e1, e2, e3, e4⟩ := hr
          simp only [lev] at h2 ⊢
          obtain ⟨k1, k2, k3, k4⟩ := even_even (join l p a) q b i1 e4 (by omega) (by omega)
          refine ⟨k1, ?_, ?_⟩
          · by_cases hh : (join l p a).lev ≤ b.lev + 2
            · have := k2 hh (by omega); omega
            · omega
          · omega
      · rw [join_tie _ _ _ h1 h2]
        refine ⟨⟨by omega, by omega, hl, hr⟩, ?_⟩
        simp only [lev]; omega
theorem even_join (l : Tr) (p : Pc) (r : Tr) (hl : l.Even) (hr : r.Even) : (join l p r).Even := (join_ev _ l p r (Nat.le_refl _) hl hr).1
/-- all but the last piece, and the last one -/
def last : Tr → Tr × Pc
  | nil => (nil, ⟨[], 0⟩)
  | node a p nil => (a, p)
  | node a p (node b q c) => (even a p (last (node b q c)).1, (last (node b q c)).2)
theorem ps_last : ∀ t : Tr, t ≠ nil → t.ps = (last t).1.ps ++ [(last t).2]
  | nil, h => absurd rfl h
  | node a p nil, _ => by simp [last, ps]
  | node a p (node b q c), _ => by
    have := ps_last (node b q c) (by simp)
    rw [last, ps, this]
    simp [ps_even]
theorem even_last : ∀ t : Tr, t ≠ nil → t.Even → (last t).1.Even ∧ (last t).1.lev ≤ t.lev ∧ t.lev ≤ (last t).1.lev + 1
  | nil, h, _ => absurd rfl h
  | node a p nil, _, h => by
    simp only [last, lev]
    refine ⟨h.2.2.1, ?_, ?_⟩ <;> omega
  | node a p (node b q c), _, h => by
    obtain ⟨i1, i2, i3⟩ := even_last (node b q c) (by simp) h.2.2.2
    obtain ⟨e1, e2, e3, e4⟩ := h
    obtain ⟨k1, k2, k3, k4⟩ := even_even a p (last (node b q c)).1 e3 i1 (by omega) (by omega)
    rw [last]
    simp only [lev] at *
    refine ⟨k1, ?_, ?_⟩
    · omega
    · by_cases hh : a.lev ≤ (last (node b q c)).1.lev + 2
      · have := k2 hh (by omega); omega
      · omega
def meet (l r : Tr) : Tr := match l with
  | nil => r
  | node a p b => join (last (node a p b)).1 (last (node a p b)).2 r
theorem ps_meet (l r : Tr) : (meet l r).ps = l.ps ++ r.ps := by
  cases l with
  | nil => rfl
  | node a p b =>
    unfold meet
    rw [ps_join, ps_last (node a p b) (by simp)]
    simp
theorem even_meet (l r : Tr) (hl : l.Even) (hr : r.Even) : (meet l r).Even := by
  cases l with
  | nil => exact hr
  | node a p b => exact even_join _ _ _ (even_last _ (by simp) hl).1 hr
/-- what lies ahead of a place, and what behind -/
def split : Tr → Nat → Tr × Tr
  | nil, _ => (nil, nil)
  | node l p r, at_ =>
    if at_ ≤ l.len then ((split l at_).1, join (split l at_).2 p r)
    else if l.len + p.b.length ≤ at_ then (join l p (split r (at_ - (l.len + p.b.length))).1, (split r (at_ - (l.len + p.b.length))).2)
    else (join l (p.cut 0 (at_ - l.len)) nil, join nil (p.cut (at_ - l.len) p.b.length) r)
theorem even_split : ∀ (t : Tr) (i : Nat), t.Even → (split t i).1.Even ∧ (split t i).2.Even
  | nil, _, _ => ⟨trivial, trivial⟩
  | node l p r, i, h => by
    unfold split
    obtain ⟨e1, e2, e3, e4⟩ := h
    split
    · exact ⟨(even_split l i e3).1, even_join _ _ _ (even_split l i e3).2 e4⟩
    · split
      · exact ⟨even_join _ _ _ e3 (even_split r _ e4).1, (even_split r _ e4).2⟩
      · exact ⟨even_join _ _ _ e3 trivial, even_join _ _ _ trivial e4⟩
theorem fair_join {l r : Tr} {p : Pc} (hl : l.Fair) (hp : p.Fair) (hr : r.Fair) : (join l p r).Fair := by
  rw [fair_ps] at *
  rw [ps_join]
  intro q hq
  rcases List.mem_append.1 hq with h | h
  · exact hl q h
  · rcases List.mem_cons.1 h with rfl | h
    · exact hp
    · exact hr q h
theorem bs_join (l r : Tr) (p : Pc) : (join l p r).bs = l.bs ++ (p.b ++ r.bs) := by
  rw [bs_ps, ps_join, List.flatMap_append, List.flatMap_cons, bs_ps l, bs_ps r]
theorem len_join (l r : Tr) (p : Pc) : (join l p r).len = l.len + p.b.length + r.len := by
  rw [← len_bs, bs_join, List.length_append, List.length_append, len_bs, len_bs]; omega
theorem fair_even {l r : Tr} {p : Pc} (hl : l.Fair) (hp : p.Fair) (hr : r.Fair) : (even l p r).Fair := by
  rw [fair_ps] at *
  rw [ps_even]
  intro q hq
  rcases List.mem_append.1 hq with h | h
  · exact hl q h
  · rcases List.mem_cons.1 h with rfl | h
    · exact hp
    · exact hr q h
theorem len_even (l r : Tr) (p : Pc) : (even l p r).len = l.len + p.b.length + r.len := by
  rw [← len_bs, bs_ps, ps_even, List.flatMap_append, List.flatMap_cons, ← bs_ps l, ← bs_ps r, List.length_append, List.length_append, len_bs, len_bs]; omega
theorem fair_last {t : Tr} (ht : t ≠ nil) (h : t.Fair) : (last t).1.Fair ∧ (last t).2.Fair := by
  rw [fair_ps, ps_last t ht] at h
  exact ⟨(fair_ps _).2 fun q hq => h q (by simp [hq]), h _ (by simp)⟩
theorem len_last {t : Tr} (ht : t ≠ nil) : t.len = (last t).1.len + (last t).2.b.length := by
  rw [← len_bs t, bs_ps, ps_last t ht, List.flatMap_append, ← bs_ps, List.length_append, len_bs]; simp
theorem fair_meet {l r : Tr} (hl : l.Fair) (hr : r.Fair) : (meet l r).Fair := by
  rw [fair_ps] at *
  rw [ps_meet]
  intro q hq
  rcases List.mem_append.1 hq with h | h
  · exact hl q h
  · exact hr q h
theorem bs_meet (l r : Tr) : (meet l r).bs = l.bs ++ r.bs := by rw [bs_ps, ps_meet, List.flatMap_append, ← bs_ps, ← bs_ps]
theorem fair_split : ∀ (t : Tr) (i : Nat), t.Fair → (split t i).1.Fair ∧ (split t i).2.Fair
  | nil, _, _ => ⟨trivial, trivial⟩
  | node l p r, i, h => by
    unfold split
    obtain ⟨e1, e2, e3⟩ := h
    split
    · exact ⟨(fair_split l i e1).1, fair_join (fair_split l i e1).2 e2 e3⟩
    · split
      · exact ⟨fair_join e1 e2 (fair_split r _ e3).1, (fair_split r _ e3).2⟩
      · exact ⟨fair_join e1 (e2.cut (by omega) (by omega)) trivial, fair_join trivial (e2.cut (by omega) (Nat.le_refl _)) e3⟩
theorem bs_split : ∀ (t : Tr) (i : Nat), (split t i).1.bs = t.bs.take i ∧ (split t i).2.bs = t.bs.drop i
  | nil, _ => by simp [split, bs]
  | node l p r, i => by
    have hl := len_bs l
    unfold split
    split
    · rename_i h
      obtain ⟨i1, i2⟩ := bs_split l i
      refine ⟨?_, ?_⟩
      · rw [i1, bs, List.take_append_of_le_length (by omega)]
      · rw [bs_join, i2, bs, List.drop_append_of_le_length (by omega)]
    · split
      · rename_i h h2
        obtain ⟨i1, i2⟩ := bs_split r (i - (l.len + p.b.length))
        have e : i = (l.bs ++ p.b).length + (i - (l.len + p.b.length)) := by rw [List.length_append]; omega
        refine ⟨?_, ?_⟩
        · rw [bs_join, i1, bs, ← List.append_assoc, ← List.append_assoc]
          conv => rhs; rw [e]
          rw [List.take_length_add_append]
        · rw [i2, bs, ← List.append_assoc]
          conv => rhs; rw [e]
          rw [List.drop_length_add_append]
      · rename_i h h2
        have e : i = l.bs.length + (i - l.len) := by omega
        refine ⟨?_, ?_⟩
        · rw [bs_join]
          conv => rhs; rw [bs, e, List.take_length_add_append, List.take_append_of_le_length (by omega)]
          simp [Pc.cut, bs]
        · rw [bs_join]
          conv => rhs; rw [bs, e, List.drop_length_add_append, List.drop_append_of_le_length (by omega)]
          simp only [Pc.cut, bs, List.nil_append]
          rw [List.take_of_length_le (by rw [List.length_drop]; omega)]
theorem len_split (t : Tr) (i : Nat) (h : i ≤ t.len) : (split t i).1.len = i ∧ (split t i).2.len = t.len - i := by
  obtain ⟨h1, h2⟩ := bs_split t i
  rw [← len_bs, ← len_bs, h1, h2, List.length_take, List.length_drop, len_bs]; omega
theorem len_meet (l r : Tr) : (meet l r).len = l.len + r.len := by rw [← len_bs, bs_meet, List.length_append, len_bs, len_bs]
end Tr
end Go.Proofs.YtkobnijjahpifaaDoor
namespace Go.Proofs.YtkobnijjahpifaaDoor
set_option linter.unusedSimpArgs false
set_option linter.unusedVariables false
set_option linter.unusedSectionVars false
open Go.RowKit

/-! ### rows of numbers in memory of their type -/
def RT (k : IntKind) (t : TypeId) (w : World) (v : Value) (l : List Int) : Prop := ∃ (A : Option Addr) (cap : Nat), v = .slice A l.length cap ∧ l.length ≤ cap ∧
  (0 < l.length → ∃ b off cs m, A = some ⟨b, off, none⟩ ∧ w.heap[b]? = some (.cells cs t m) ∧ ∀ (j : Nat) (h : j < l.length), cs[off + j]? = some (.int k l[j]))
theorem RT.rn {k : IntKind} {t : TypeId} {w : World} {v : Value} {l : List Int} (h : RT k t w v l) : RN k w v l := by
  obtain ⟨A, cap, h1, h2, h3⟩ := h
  refine ⟨A, cap, h1, h2, fun h0 => ?_⟩
  obtain ⟨b, off, cs, m, e, hb, hc⟩ := h3 h0
  refine ⟨b, off, e, own_lt hb, fun j hj => ?_⟩
  rw [← hc j hj]
  simp [World.cell?, hb]
theorem RT.later {k : IntKind} {t : TypeId} {w w' : World} {v : Value} {l : List Int} (h : RT k t w v l) (ha : AnyLater w w') : RT k t w' v l := by
  obtain ⟨A, cap, h1, h2, h3⟩ := h
  refine ⟨A, cap, h1, h2, fun h0 => ?_⟩
  obtain ⟨b, off, cs, m, e, hb, hc⟩ := h3 h0
  exact ⟨b, off, cs, m, e, any_own ha hb, hc⟩
/-- a store into memory of another type -/
theorem RT.far {k : IntKind} {t s : TypeId} {w : World} {v x : Value} {l : List Int} {g i : Nat} {cs : Array Value} {m : Nat × Nat} (h : RT k t w v l) (hg : w.heap[g]? = some (.cells cs s m)) (hne : s ≠ t) : RT k t (w.setCell ⟨g, i, none⟩ x) v l := by
  obtain ⟨A, cap, h1, h2, h3⟩ := h
  refine ⟨A, cap, h1, h2, fun h0 => ?_⟩
  obtain ⟨b, off, c2, m2, e, hb, hc⟩ := h3 h0
  refine ⟨b, off, c2, m2, e, heap_far (fun e2 => ?_) hb, hc⟩
  rw [e2, hg] at hb
  cases hb
  exact hne rfl
theorem RT.form {k : IntKind} {t : TypeId} {w : World} {v : Value} {l : List Int} (h : RT k t w v l) : ∃ A cap, v = .slice A l.length cap ∧ l.length ≤ cap := h.rn.form
theorem ON.rt {k : IntKind} {t : TypeId} {w : World} {B : Nat} {v : Value} {l : List Int} (h : ON k t w B v l) : RT k t w v l := by
  rcases h.2 with ⟨rfl, h0⟩ | ⟨g, cap, cur, rfl, h1, h2, h3, h4, h5, h6⟩
  · exact ⟨none, 0, by rw [h0], by omega, fun h => by omega⟩
  · refine ⟨_, cap, rfl, h3, fun h0 => ⟨g, 0, cur, _, rfl, h2, fun j hj => ?_⟩⟩
    have : (cur.toList.take (l.length * 1))[j]? = (l.map (Value.int k))[j]? := by rw [h6]
    rw [List.getElem?_take_of_lt (by omega), Array.getElem?_toList] at this
    rw [Nat.zero_add, this]
    simp [hj]
theorem RT.nil {k : IntKind} {t : TypeId} (w : World) : RT k t w (.slice none 0 0) [] := ⟨none, 0, rfl, Nat.le_refl _, fun h => absurd h (by decide)⟩

/-! ### pieces and trees -/
def RIsP (w : World) (bv fv : Value) (p : Pc) : Prop := RT .u8 5 w bv p.b ∧ RT .i32 21 w fv p.fs
theorem RIsP.later {w w' : World} {bv fv : Value} {p : Pc} (h : RIsP w bv fv p) (ha : AnyLater w w') : RIsP w' bv fv p := ⟨h.1.later ha, h.2.later ha⟩
def pcV (bv fv : Value) (p : Pc) : Value := .agg #[bv, fv, .int .i64 p.base]
def sumV (t : Tr) : Value := .agg #[.int .i64 (t.len : Int), .int .i64 (t.nf : Int), .int .i64 (t.np : Int), .int .i64 (t.lev : Int)]
def nodeC (lv rv bv fv : Value) (p : Pc) (t : Tr) : Array Value := #[lv, rv, bv, fv, .int .i64 p.base, .int .i64 (t.len : Int), .int .i64 (t.nf : Int), .int .i64 (t.np : Int), .int .i64 (t.lev : Int)]
def IsT (w : World) : Tr → Value → Prop
  | .nil, v => v = .pointer none
  | .node l p r, v => ∃ (k : Nat) (lv rv bv fv : Value), v = .pointer (some ⟨k, 0, none⟩) ∧ w.heap[k]? = some (.cells (nodeC lv rv bv fv p (.node l p r)) 87) ∧ IsT w l lv ∧ IsT w r rv ∧ RIsP w bv fv p
theorem IsT.later {w w' : World} (ha : AnyLater w w') : ∀ {t : Tr} {v : Value}, IsT w t v → IsT w' t v
  | .nil, _, h => h
  | .node l p r, v, h => by
    obtain ⟨k, lv, rv, bv, fv, h1, h2, h3, h4, h5⟩ := h
    exact ⟨k, lv, rv, bv, fv, h1, any_own ha h2, IsT.later ha h3, IsT.later ha h4, h5.later ha⟩
theorem IsT.ptr {w : World} : ∀ {t : Tr} {v : Value}, IsT w t v → ∃ q, v = .pointer q
  | .nil, _, h => ⟨none, h⟩
  | .node _ _ _, _, h => by
    obtain ⟨k, _, _, _, _, h1, _⟩ := h
    exact ⟨_, h1⟩
theorem IsT.far {w : World} {g i : Nat} {cs : Array Value} {s : TypeId} {m : Nat × Nat} {x : Value} (hg : w.heap[g]? = some (.cells cs s m)) (h8 : s ≠ 5) (h3 : s ≠ 21) (hn : s ≠ 87) :
    ∀ {t : Tr} {v : Value}, IsT w t v → IsT (w.setCell ⟨g, i, none⟩ x) t v
  | .nil, _, h => h
  | .node l p r, v, h => by
    obtain ⟨k, lv, rv, bv, fv, q1, q2, q3, q4, q5⟩ := h
    refine ⟨k, lv, rv, bv, fv, q1, heap_far (fun e => ?_) q2, IsT.far hg h8 h3 hn q3, IsT.far hg h8 h3 hn q4, q5.1.far hg h8, q5.2.far hg h3⟩
    rw [e, hg] at q2
    cases q2
    exact hn rfl

theorem RIsP.far {w : World} {g i : Nat} {cs : Array Value} {s : TypeId} {m : Nat × Nat} {x bv fv : Value} {p : Pc} (hg : w.heap[g]? = some (.cells cs s m)) (h8 : s ≠ 5) (h3 : s ≠ 21) (h : RIsP w bv fv p) : RIsP (w.setCell ⟨g, i, none⟩ x) bv fv p := ⟨h.1.far hg h8, h.2.far hg h3⟩
/-- three stores into a block that holds no part of a tree -/
theorem IsT.far3 {w : World} {g i j k : Nat} {cs : Array Value} {s : TypeId} {x y z : Value} (hg : w.heap[g]? = some (.cells cs s)) (h8 : s ≠ 5) (h3 : s ≠ 21) (hn : s ≠ 87) {t : Tr} {v : Value} (h : IsT w t v) :
    IsT (((w.setCell ⟨g, i, none⟩ x).setCell ⟨g, j, none⟩ y).setCell ⟨g, k, none⟩ z) t v := by
  have h1 := heap_at (i := i) (v := x) hg rfl
  have h2 := heap_at (i := j) (v := y) h1 rfl
  exact IsT.far h2 h8 h3 hn (IsT.far h1 h8 h3 hn (IsT.far hg h8 h3 hn h))
theorem RIsP.far3 {w : World} {g i j k : Nat} {cs : Array Value} {s : TypeId} {x y z bv fv : Value} {p : Pc} (hg : w.heap[g]? = some (.cells cs s)) (h8 : s ≠ 5) (h3 : s ≠ 21) (h : RIsP w bv fv p) :
    RIsP (((w.setCell ⟨g, i, none⟩ x).setCell ⟨g, j, none⟩ y).setCell ⟨g, k, none⟩ z) bv fv p := by
  have h1 := heap_at (i := i) (v := x) hg rfl
  have h2 := heap_at (i := j) (v := y) h1 rfl
  exact RIsP.far h2 h8 h3 (RIsP.far h1 h8 h3 (RIsP.far hg h8 h3 h))

/-! ### small functions -/
theorem run_maxN {P : Program} (w : World) (ts : Array TypeId) (t : TypeId) (p q : Nat) : (Builtin.max_ ts t #[.int .i64 (p : Int), .int .i64 (q : Int)]).run P w = .ok (.int .i64 ((max p q : Nat) : Int)) w := by
  rw [run_max_int2]; split <;> (congr 2; omega)
theorem noted_nil (w : World) : Calls Tryd.prog 59 #[.pointer none] w fun e w' => e = .returned (sumV .nil) ∧ AnyLater w w' := by
  go_enter Tryd.func59, Tryd.ntmps59
  go_wp2_with fail
  refine bodyPost_ret (v := sumV .nil) (by simp [results, Tryd.results59, go_sem, sumV, Tr.len, Tr.nf, Tr.np, Tr.lev]) rfl ⟨rfl, ?_⟩
  repeat' (first | with_reducible assumption | with_reducible exact AnyLater.refl _ | with_reducible apply AnyLater.setCell | with_reducible apply AnyLater.later | with_reducible apply AnyLater.drewN | with_reducible apply AnyLater.drew | with_reducible apply AnyLater.alloc | ((try simp only [World.size_alloc, World.size_setCell, World.size_drew]); (try dsimp only); omega))
theorem noted_node (k : Nat) (cs : Array Value) (a b c d : Nat) (x0 x1 x2 x3 x4 : Value) (w : World) (hk : w.heap[k]? = some (.cells #[x0, x1, x2, x3, x4, .int .i64 (a : Int), .int .i64 (b : Int), .int .i64 (c : Int), .int .i64 (d : Int)] 87)) :
    Calls Tryd.prog 59 #[.pointer (some ⟨k, 0, none⟩)] w fun e w' => e = .returned (.agg #[.int .i64 (a : Int), .int .i64 (b : Int), .int .i64 (c : Int), .int .i64 (d : Int)]) ∧ AnyLater w w' := by
  have s := hk
  have l := own_lt s
  have nl : w.heap.size ≠ k := by omega
  have r := own_row s
  have f := own_free s
  clear hk s
  go_enter Tryd.func59, Tryd.ntmps59
  go_wp2_with fail
  refine bodyPost_ret (v := .agg #[.int .i64 (a : Int), .int .i64 (b : Int), .int .i64 (c : Int), .int .i64 (d : Int)]) (by simp [results, Tryd.results59, go_sem, *]) rfl ⟨rfl, ?_⟩
  repeat' (first | with_reducible assumption | with_reducible exact AnyLater.refl _ | with_reducible apply AnyLater.setCell | with_reducible apply AnyLater.later | with_reducible apply AnyLater.drewN | with_reducible apply AnyLater.drew | with_reducible apply AnyLater.alloc | ((try simp only [World.size_alloc, World.size_setCell, World.size_drew]); (try dsimp only); omega))
theorem noted_any (t : Tr) (v : Value) (w : World) (h : IsT w t v) : Calls Tryd.prog 59 #[v] w fun e w' => e = .returned (sumV t) ∧ AnyLater w w' := by
  cases t with
  | nil =>
    obtain rfl : v = .pointer none := h
    exact noted_nil w
  | node l p r =>
    obtain ⟨k, lv, rv, bv, fv, rfl, h2, _⟩ := h
    exact noted_node k #[] _ _ _ _ lv rv bv fv _ w h2
end Go.Proofs.YtkobnijjahpifaaDoor
namespace Go.Proofs.YtkobnijjahpifaaDoor
set_option linter.unusedSimpArgs false
set_option linter.unusedVariables false
set_option linter.unusedSectionVars false
open Go.RowKit

/-- a call whose answer is of this kind, which changes nothing that was -/
def Ans (is : Value → World → Prop) (w : World) (e : Ending) (w' : World) : Prop := ∃ u, e = .returned u ∧ AnyLater w w' ∧ is u w'
def isT (t : Tr) (v : Value) (w : World) : Prop := IsT w t v
theorem isT_stays {t : Tr} {v : Value} {w w' : World} (h : AnyLater w w') (s : isT t v w) : isT t v w' := IsT.later h s

set_option maxRecDepth 100000 in
theorem sumsOf_any (l r : Tr) (p : Pc) (lv rv bv fv : Value) (w : World) (hl : IsT w l lv) (hr : IsT w r rv) (hp : RIsP w bv fv p) (fl : l.Fair) (fr : r.Fair) (hn : (Tr.node l p r).len ≤ 90000) :
    Calls Tryd.prog 70 #[lv, pcV bv fv p, rv] w fun e w' => e = .returned (sumV (.node l p r)) ∧ AnyLater w w' := by
  have HL := Lib.hid (fun (w' : World) (a : AnyLater w w') => noted_any l lv w' (hl.later a))
  have HR := Lib.hid (fun (w' : World) (a : AnyLater w w') => noted_any r rv w' (hr.later a))
  obtain ⟨A, cap, rfl, hA⟩ := hp.1.form
  obtain ⟨A2, cap2, rfl, hA2⟩ := hp.2.form
  have b1 := l.np_le fl
  have b2 := r.np_le fr
  have b3 := l.lev_le
  have b4 := r.lev_le
  have b5 := l.nf_le
  have b6 := r.nf_le
  have b7 := feN_le p.b p.base
  have b8 : p.fs.length ≤ p.b.length := b7
  simp only [Tr.len] at hn
  unfold sumV at HL HR ⊢
  simp only [Tr.len, Tr.nf, Tr.np, Tr.lev]
  unfold pcV
  clear hl hr hp fl fr b7 hA hA2
  generalize l.len = a1 at *
  generalize l.nf = a2 at *
  generalize l.np = a3 at *
  generalize l.lev = a4 at *
  generalize r.len = c1 at *
  generalize r.nf = c2 at *
  generalize r.np = c3 at *
  generalize r.lev = c4 at *
  generalize p.b.length = n at *
  generalize p.fs.length = m at *
  obtain ⟨M, hM⟩ : ∃ M, max a4 c4 = M := ⟨_, rfl⟩
  have hM2 : M ≤ 90000 := by omega
  have HMx : ∀ (w : World) ts t, (Builtin.max_ ts t #[.int .i64 (a4 : Int), .int .i64 (c4 : Int)]).run Tryd.prog w = .ok (.int .i64 (M : Int)) w := fun w ts t => by rw [run_maxN, hM]
  rw [hM]
  clear hM b3 b4
  go_enter Tryd.func70, Tryd.ntmps70
  go_wp2_with fail
  first | refine settle_wp (fun wS => AnyLater w wS ∧ wS.heap[w.heap.size]? = some (.cells #[.slice A n cap, .slice A2 m cap2, .int .i64 p.base] 71) ∧ wS.heap[w.heap.size + 1]? = some (.cells #[.int .i64 0, .int .i64 0, .int .i64 0, .int .i64 0] 74)) ?_ ?_ | refine settle_calls (fun wS => AnyLater w wS ∧ wS.heap[w.heap.size]? = some (.cells #[.slice A n cap, .slice A2 m cap2, .int .i64 p.base] 71) ∧ wS.heap[w.heap.size + 1]? = some (.cells #[.int .i64 0, .int .i64 0, .int .i64 0, .int .i64 0] 74)) ?_ ?_
  · refine ⟨?_, ?_, ?_⟩
    · repeat' (first | with_reducible assumption | with_reducible exact AnyLater.refl _ | with_reducible apply AnyLater.setCell | with_reducible apply AnyLater.later | with_reducible apply AnyLater.drewN | with_reducible apply AnyLater.drew | with_reducible apply AnyLater.alloc | ((try simp only [World.size_alloc, World.size_setCell, World.size_drew]); (try dsimp only); omega))
    · ((repeat (first | with_reducible assumption | ((with_reducible apply heap_new); (try simp only [World.size_alloc, World.size_setCell, World.size_drew, World.heap_drewN]); done) | ((with_reducible apply heap_new); (try simp only [World.size_alloc, World.size_setCell, World.size_drew, World.heap_drewN]); omega) | (with_reducible refine heap_old (by (try simp only [World.size_alloc, World.size_setCell, World.size_drew, World.heap_drewN]); omega) ?_) | (with_reducible refine heap_drew ?_) | (with_reducible refine heap_far (by omega) ?_) | (with_reducible apply heap_at))); all_goals rfl)
    · ((repeat (first | with_reducible assumption | ((with_reducible apply heap_new); (try simp only [World.size_alloc, World.size_setCell, World.size_drew, World.heap_drewN]); done) | ((with_reducible apply heap_new); (try simp only [World.size_alloc, World.size_setCell, World.size_drew, World.heap_drewN]); omega) | (with_reducible refine heap_old (by (try simp only [World.size_alloc, World.size_setCell, World.size_drew, World.heap_drewN]); omega) ?_) | (with_reducible refine heap_drew ?_) | (with_reducible refine heap_far (by omega) ?_) | (with_reducible apply heap_at))); all_goals rfl)
  rintro w1 ⟨b_w1, s0_w1, s1_w1⟩
  have a_w1 := b_w1
  have r0_w1 := own_row s0_w1
  have f0_w1 := own_free s0_w1
  have l0_w1 := own_lt s0_w1
  have r1_w1 := own_row s1_w1
  have f1_w1 := own_free s1_w1
  have l1_w1 := own_lt s1_w1
  have z_w1 := b_w1.below.size
  refine (HL.out _ (by assumption)).mono ?_
  rintro e w2 ⟨rfl, b_w2⟩
  have z_w2 := b_w2.below.size
  have a_w2 := a_w1.trans b_w2
  have s0_w2 := any_own b_w2 s0_w1
  have s1_w2 := any_own b_w2 s1_w1
  have r0_w2 := own_row s0_w2
  have f0_w2 := own_free s0_w2
  have l0_w2 := own_lt s0_w2
  have r1_w2 := own_row s1_w2
  have f1_w2 := own_free s1_w2
  have l1_w2 := own_lt s1_w2
  (try clear r0_w1); (try clear f0_w1)
  (try clear r1_w1); (try clear f1_w1)
  go_wp2_with fail
  refine (HR.out _ (by assumption)).mono ?_
  rintro e w3 ⟨rfl, b_w3⟩
  have z_w3 := b_w3.below.size
  have a_w3 := a_w2.trans b_w3
  have s0_w3 := any_own b_w3 s0_w2
  have s1_w3 := any_own b_w3 s1_w2
  have r0_w3 := own_row s0_w3
  have f0_w3 := own_free s0_w3
  have l0_w3 := own_lt s0_w3
  have r1_w3 := own_row s1_w3
  have f1_w3 := own_free s1_w3
  have l1_w3 := own_lt s1_w3
  (try clear r0_w2); (try clear f0_w2)
  (try clear r1_w2); (try clear f1_w2)
  go_wp2_with fail
  refine bodyPost_ret (v := .agg #[.int .i64 ((a1 + n + c1 : Nat) : Int), .int .i64 ((a2 + m + c2 : Nat) : Int), .int .i64 ((a3 + 1 + c3 : Nat) : Int), .int .i64 ((1 + M : Nat) : Int)]) (by simp [results, Tryd.results70, go_sem, *]) rfl ⟨rfl, ?_⟩
  repeat' (first | with_reducible assumption | with_reducible exact AnyLater.refl _ | with_reducible apply AnyLater.setCell | with_reducible apply AnyLater.later | with_reducible apply AnyLater.drewN | with_reducible apply AnyLater.drew | with_reducible apply AnyLater.alloc | ((try simp only [World.size_alloc, World.size_setCell, World.size_drew]); (try dsimp only); omega))
theorem fld0 (a b c d : Int) (w : World) : (Instr.field 74 (.agg #[.int .i64 a, .int .i64 b, .int .i64 c, .int .i64 d]) 0).run Tryd.prog w = .ok (.int .i64 a) w := by kernel_rfl
theorem fld1 (a b c d : Int) (w : World) : (Instr.field 74 (.agg #[.int .i64 a, .int .i64 b, .int .i64 c, .int .i64 d]) 1).run Tryd.prog w = .ok (.int .i64 b) w := by kernel_rfl
theorem fld2 (a b c d : Int) (w : World) : (Instr.field 74 (.agg #[.int .i64 a, .int .i64 b, .int .i64 c, .int .i64 d]) 2).run Tryd.prog w = .ok (.int .i64 c) w := by kernel_rfl
theorem fld3 (a b c d : Int) (w : World) : (Instr.field 74 (.agg #[.int .i64 a, .int .i64 b, .int .i64 c, .int .i64 d]) 3).run Tryd.prog w = .ok (.int .i64 d) w := by kernel_rfl
set_option maxRecDepth 100000 in
theorem deeper_any (l r : Tr) (lv rv : Value) (w : World) (c : Bool) (hc : decide (r.lev + 2 < l.lev) = c) (hl : IsT w l lv) (hr : IsT w r rv) (h1 : l.lev ≤ 90000) (h2 : r.lev ≤ 90000) :
    Calls Tryd.prog 54 #[lv, rv] w fun e w' => e = .returned (.bool c) ∧ AnyLater w w' := by
  have HL := Lib.hid (fun (w' : World) (a : AnyLater w w') => noted_any l lv w' (hl.later a))
  have HR := Lib.hid (fun (w' : World) (a : AnyLater w w') => noted_any r rv w' (hr.later a))
  have HC : Hid (decide ((r.lev : Int) + 2 < (l.lev : Int)) = c) := Lib.hid (by rw [← hc]; simp only [decide_eq_decide]; omega)
  unfold sumV at HL HR
  clear hl hr hc
  generalize l.lev = a4 at *
  generalize r.lev = c4 at *
  have a0 := AnyLater.refl w
  have f3 := fld3
  go_enter Tryd.func54, Tryd.ntmps54
  go_wp2_with fail
  refine (HL.out _ a0).mono ?_
  rintro e w2 ⟨rfl, b2⟩
  go_wp2_with fail
  refine (HR.out _ b2).mono ?_
  rintro e w3 ⟨rfl, b3⟩
  go_wp2_with fail
  go_ret
  exact ⟨ret_bool HC.out, b2.trans b3⟩
set_option maxRecDepth 100000 in
theorem tie_any (l r : Tr) (p : Pc) (lv rv bv fv : Value) (w : World) (hl : IsT w l lv) (hr : IsT w r rv) (hp : RIsP w bv fv p) (fl : l.Fair) (fr : r.Fair) (hn : (Tr.node l p r).len ≤ 90000) :
    Calls Tryd.prog 56 #[lv, pcV bv fv p, rv] w (Ans (isT (.node l p r)) w) := by
  have HS := Lib.hid (fun (w' : World) (a : AnyLater w w') => sumsOf_any l r p lv rv bv fv w' (hl.later a) (hr.later a) (hp.later a) fl fr hn)
  have HT : Hid (∀ (w' : World) (k : Nat), AnyLater w w' → w'.heap[k]? = some (.cells (nodeC lv rv bv fv p (.node l p r)) 87) → isT (.node l p r) (.pointer (some ⟨k, 0, none⟩)) w') := Lib.hid (fun w' k a hk => ⟨k, lv, rv, bv, fv, rfl, hk, hl.later a, hr.later a, hp.later a⟩)
  obtain ⟨q1, rfl⟩ := hl.ptr
  obtain ⟨q2, rfl⟩ := hr.ptr
  obtain ⟨A, cap, rfl, hA⟩ := hp.1.form
  obtain ⟨A2, cap2, rfl, hA2⟩ := hp.2.form
  unfold nodeC at HT
  unfold sumV at HS
  unfold pcV at HS ⊢
  clear hl hr hp fl fr hn
  generalize (Tr.node l p r).len = a1 at *
  generalize (Tr.node l p r).nf = a2 at *
  generalize (Tr.node l p r).np = a3 at *
  generalize (Tr.node l p r).lev = a4 at *
  generalize p.b.length = n at *
  generalize p.fs.length = m at *
  generalize p.base = b0 at *
  go_enter Tryd.func56, Tryd.ntmps56
  go_wp2_with fail
  first | refine settle_wp (fun wS => AnyLater w wS ∧ wS.heap[w.heap.size]? = some (.cells #[.slice A n cap, .slice A2 m cap2, .int .i64 b0] 71)) ?_ ?_ | refine settle_calls (fun wS => AnyLater w wS ∧ wS.heap[w.heap.size]? = some (.cells #[.slice A n cap, .slice A2 m cap2, .int .i64 b0] 71)) ?_ ?_
  · refine ⟨?_, ?_⟩
    · repeat' (first | with_reducible assumption | with_reducible exact AnyLater.refl _ | with_reducible apply AnyLater.setCell | with_reducible apply AnyLater.later | with_reducible apply AnyLater.drewN | with_reducible apply AnyLater.drew | with_reducible apply AnyLater.alloc | ((try simp only [World.size_alloc, World.size_setCell, World.size_drew]); (try dsimp only); omega))
    · ((repeat (first | with_reducible assumption | ((with_reducible apply heap_new); (try simp only [World.size_alloc, World.size_setCell, World.size_drew, World.heap_drewN]); done) | ((with_reducible apply heap_new); (try simp only [World.size_alloc, World.size_setCell, World.size_drew, World.heap_drewN]); omega) | (with_reducible refine heap_old (by (try simp only [World.size_alloc, World.size_setCell, World.size_drew, World.heap_drewN]); omega) ?_) | (with_reducible refine heap_drew ?_) | (with_reducible refine heap_far (by omega) ?_) | (with_reducible apply heap_at))); all_goals rfl)
  rintro w1 ⟨b_w1, s0_w1⟩
  have a_w1 := b_w1
  have r0_w1 := own_row s0_w1
  have f0_w1 := own_free s0_w1
  have l0_w1 := own_lt s0_w1
  have z_w1 := b_w1.below.size
  apply wp_region_mem (8) [] (by kernel_rfl) (by kernel_rfl) (by simp)
  case hstab =>
    intro e he v x y hxy hv
    simp only [List.mem_cons, List.not_mem_nil, or_false] at he
  case hlex =>
    intro U
    have q0 := fun (v : Later (later U)) => own_row (any_own ⟨v, rfl⟩ (any_own ⟨U, rfl⟩ s0_w1))
    simp only [absFrom, absOp, idx, List.map_cons, List.map_nil, List.contains_cons, List.contains_nil, Nat.reduceBEq, Bool.or_false, Bool.false_or, Bool.true_or, Bool.or_true, Bool.false_eq_true, Nat.reduceLeDiff, Nat.reduceAdd, if_false, if_true]
    repeat (go_big_quiet_step ((go_at_call 70; exact in_later (HS.out _ (by repeat' (first | with_reducible assumption | with_reducible exact AnyLater.refl _ | with_reducible apply AnyLater.setCell | with_reducible apply AnyLater.later | with_reducible apply AnyLater.drewN | with_reducible apply AnyLater.drew | with_reducible apply AnyLater.alloc | ((try simp only [World.size_alloc, World.size_setCell, World.size_drew]); (try dsimp only); omega)))))))
    exact wpQuiet_nil rfl
  case hown =>
    intro e he o ho
    simp only [List.mem_cons, List.not_mem_nil, or_false] at he
  case htail =>
    intro g u hst hne
    have b_w2 : AnyLater w1 (later u) := ⟨u, rfl⟩
    generalize later u = w2 at *
    clear u
    clear hst hne
    simp only [fillAll, Act.put, List.setIfInBounds_toArray, List.set_cons_zero, List.set_cons_succ, List.drop_succ_cons, List.drop_zero]
    have z_w2 := b_w2.below.size
    have a_w2 := a_w1.trans b_w2
    have s0_w2 := any_own b_w2 s0_w1
    have r0_w2 := own_row s0_w2
    have f0_w2 := own_free s0_w2
    have l0_w2 := own_lt s0_w2
    (try clear r0_w1); (try clear f0_w1)
    go_wp2_with fail
    go_ret
    refine ⟨_, rfl, a_w2.alloc _, HT.out _ _ (a_w2.alloc _) (heap_new rfl)⟩
end Go.Proofs.YtkobnijjahpifaaDoor
namespace Go.Proofs.YtkobnijjahpifaaDoor
set_option linter.unusedSimpArgs false
set_option linter.unusedVariables false
set_option linter.unusedSectionVars false
open Go.RowKit

set_option maxRecDepth 100000 in
theorem ends_any (l r : Tr) (p : Pc) (v : Value) (w : World) (h : IsT w (.node l p r) v) (hn : (Tr.node l p r).len ≤ 90000) :
    Calls Tryd.prog 52 #[v] w fun e w' => e = .returned (.tuple #[.int .i64 (l.len : Int), .int .i64 ((l.len + p.b.length : Nat) : Int)]) ∧ AnyLater w w' := by
  obtain ⟨k, lv, rv, bv, fv, rfl, hk, hl, hr, hp⟩ := h
  have HL := Lib.hid (fun (w' : World) (a : AnyLater w w') => noted_any l lv w' (hl.later a))
  obtain ⟨A, cap, rfl, hA⟩ := hp.1.form
  have s0_w : w.heap[k]? = some (.cells (nodeC lv rv (.slice A p.b.length cap) fv p (.node l p r)) 87) := hk
  have r0 := own_row s0_w
  have HS := Lib.hid s0_w
  simp only [Tr.len] at hn
  unfold nodeC at r0 HS
  unfold sumV at HL
  have f0 := fld0
  clear hl hr hp hk s0_w
  generalize p.b.length = n at *
  generalize l.len = a1 at *
  go_enter Tryd.func52, Tryd.ntmps52
  go_wp2_with fail
  refine (HL.out _ (AnyLater.refl w)).mono ?_
  rintro e w2 ⟨rfl, b2⟩
  have HB := Lib.hid b2
  have r1 := own_row (any_own b2 HS.out)
  clear r0 b2
  go_wp2_with fail
  go_quiet (fail)
  go_wp2_with fail
  refine bodyPost_ret (v := .tuple #[.int .i64 (a1 : Int), .int .i64 ((a1 + n : Nat) : Int)]) (by simp [results, Tryd.results52, go_sem]) rfl ⟨rfl, ?_⟩
  exact HB.out.drewN _
set_option maxRecDepth 100000 in
set_option maxHeartbeats 1600000 in
theorem turnRight_flat (a i r : Tr) (q p : Pc) (v rv bv fv : Value) (w : World) (h : IsT w (.node a q i) v) (hr : IsT w r rv) (hp : RIsP w bv fv p) (hF : (Tr.node a q i).Fair) (fp : p.Fair) (fr : r.Fair) (hn : (Tr.node a q i).len + p.b.length + r.len ≤ 90000) (hlev : i.lev ≤ a.lev) :
    Calls Tryd.prog 68 #[v, pcV bv fv p, rv] w (Ans (isT (.node a q (.node i p r))) w) := by
  obtain ⟨fa, fq, fi⟩ := hF
  have hn2 : a.len + q.b.length + i.len + p.b.length + r.len ≤ 90000 := hn
  obtain ⟨k, lv, iv, qv, gv, rfl, hk, ha, hi, hq⟩ := h
  have HNa := Lib.hid (fun (w' : World) (b : AnyLater w w') => noted_any a lv w' (ha.later b))
  have HNi := Lib.hid (fun (w' : World) (b : AnyLater w w') => noted_any i iv w' (hi.later b))
  have HT1 := Lib.hid (fun (w' : World) (b : AnyLater w w') => tie_any i r p iv rv bv fv w' (hi.later b) (hr.later b) (hp.later b) fi fr (by unfold Tr.len; omega))
  have HT2 := Lib.hid (fun (w' : World) (u : Value) (b : AnyLater w w') (hu : isT (.node i p r) u w') => tie_any a (.node i p r) q lv u qv gv w' (ha.later b) hu (hq.later b) fa ⟨fi, fp, fr⟩ (by simp only [Tr.len]; omega))
  have HK := Lib.hid hk
  obtain ⟨A, cap, rfl, -⟩ := hp.1.form
  obtain ⟨A2, cap2, rfl, -⟩ := hp.2.form
  obtain ⟨A3, cap3, rfl, -⟩ := hq.1.form
  obtain ⟨A4, cap4, rfl, -⟩ := hq.2.form
  unfold nodeC at HK
  unfold sumV at HNa HNi
  unfold pcV at HT1 HT2 ⊢
  have d1 : ((i.lev : Nat) : Int) ≤ (a.lev : Int) := by omega
  have f3 := fld3
  clear ha hi hq hr hp hk hn hn2 hlev
  generalize a.lev = x1 at *
  generalize i.lev = x2 at *
  generalize p.b.length = n at *
  generalize p.fs.length = m at *
  generalize p.base = b0 at *
  generalize q.b.length = n2 at *
  generalize q.fs.length = m2 at *
  generalize q.base = b1 at *
  go_enter Tryd.func68, Tryd.ntmps68
  go_wp2_with fail
  first | refine settle_wp (fun wS => AnyLater w wS ∧ wS.heap[w.heap.size]? = some (.cells #[.slice A n cap, .slice A2 m cap2, .int .i64 b0] 71)) ?_ ?_ | refine settle_calls (fun wS => AnyLater w wS ∧ wS.heap[w.heap.size]? = some (.cells #[.slice A n cap, .slice A2 m cap2, .int .i64 b0] 71)) ?_ ?_
  · refine ⟨?_, ?_⟩
    · repeat' (first | with_reducible assumption | with_reducible exact AnyLater.refl _ | with_reducible apply AnyLater.setCell | with_reducible apply AnyLater.later | with_reducible apply AnyLater.drewN | with_reducible apply AnyLater.drew | with_reducible apply AnyLater.alloc | ((try simp only [World.size_alloc, World.size_setCell, World.size_drew]); (try dsimp only); omega))
    · ((repeat (first | with_reducible assumption | ((with_reducible apply heap_new); (try simp only [World.size_alloc, World.size_setCell, World.size_drew, World.heap_drewN]); done) | ((with_reducible apply heap_new); (try simp only [World.size_alloc, World.size_setCell, World.size_drew, World.heap_drewN]); omega) | (with_reducible refine heap_old (by (try simp only [World.size_alloc, World.size_setCell, World.size_drew, World.heap_drewN]); omega) ?_) | (with_reducible refine heap_drew ?_) | (with_reducible refine heap_far (by omega) ?_) | (with_reducible apply heap_at))); all_goals rfl)
  rintro w1 ⟨b_w1, s0_w1⟩
  have a_w1 := b_w1
  have r0_w1 := own_row s0_w1
  have f0_w1 := own_free s0_w1
  have l0_w1 := own_lt s0_w1
  have z_w1 := b_w1.below.size
  have s1_w1 := any_own a_w1 HK.out
  have r1_w1 := own_row s1_w1
  go_quiet (fail)
  go_wp2_with fail
  refine (HNa.out _ (a_w1.drewN _)).mono ?_
  rintro e w2 ⟨rfl, c2⟩
  have b_w2 : AnyLater w1 w2 := ((AnyLater.refl w1).drewN _).trans c2
  have z_w2 := b_w2.below.size
  have a_w2 := a_w1.trans b_w2
  have s0_w2 := any_own b_w2 s0_w1
  have s1_w2 := any_own b_w2 s1_w1
  have r0_w2 := own_row s0_w2
  have f0_w2 := own_free s0_w2
  have l0_w2 := own_lt s0_w2
  have r1_w2 := own_row s1_w2
  have f1_w2 := own_free s1_w2
  have l1_w2 := own_lt s1_w2
  (try clear r0_w1); (try clear f0_w1)
  (try clear r1_w1); (try clear f1_w1)
  clear c2
  go_wp2_with fail
  refine (HNi.out _ a_w2).mono ?_
  rintro e w3 ⟨rfl, b_w3⟩
  have z_w3 := b_w3.below.size
  have a_w3 := a_w2.trans b_w3
  have s0_w3 := any_own b_w3 s0_w2
  have s1_w3 := any_own b_w3 s1_w2
  have r0_w3 := own_row s0_w3
  have f0_w3 := own_free s0_w3
  have l0_w3 := own_lt s0_w3
  have r1_w3 := own_row s1_w3
  have f1_w3 := own_free s1_w3
  have l1_w3 := own_lt s1_w3
  (try clear r0_w2); (try clear f0_w2)
  (try clear r1_w2); (try clear f1_w2)
  go_wp2_with fail
  apply Wild.wp_region_free (10) [⟨8, 32, undef, true, isT (.node i p r)⟩, ⟨9, 33, undef, true, isT (.node a q (.node i p r))⟩] [⟨8, 32, isT (.node i p r)⟩, ⟨9, 33, isT (.node a q (.node i p r))⟩] rfl (by kernel_rfl) (by kernel_rfl) (by kernel_rfl) (by simp) (by kernel_rfl)
  case hstab =>
    intro c hc
    simp only [List.mem_cons, List.not_mem_nil, or_false] at hc
    rcases hc with rfl | rfl
    · intro v x y hxy hv; exact isT_stays hxy hv
    · intro v x y hxy hv; exact isT_stays hxy hv
  case hfix =>
    intro c hc
    simp only [List.mem_cons, List.not_mem_nil, or_false] at hc
    rcases hc with rfl | rfl
    · exact .inl rfl
    · exact .inl rfl
  case hlex =>
    intro U hU
    have q0 := own_row (any_own hU s0_w3)
    have q1 := own_row (any_own hU s1_w3)
    simp only [List.map_cons, List.map_nil, CA.act, actFrom, actOp, List.lookup, Nat.reduceBEq, Nat.reduceLeDiff, Nat.reduceAdd, if_false, if_true]
    repeat (go_big_quiet_step (fail))
    exact wpQuiet_nil rfl
  case hstep =>
    intro j hj o ho
    have hj2 : j = 0 ∨ j = 1 := by simp at hj; omega
    rcases hj2 with rfl | rfl
    · cases ho
      refine ⟨rfl, fun g x hx hp => ?_⟩
      clear hp
      simp only [fillAll, Act.put, List.setIfInBounds_toArray, List.set_cons_zero, List.set_cons_succ]
      refine chain_go ?_ (Wild.free_tells (HT1.out x (a_w3.trans hx)))
      simp [go_sem, execOp]
    · cases ho
      refine ⟨rfl, fun g x hx hp => ?_⟩
      have p32 : (isT (.node i p r)) (g 8) x := hp _ (List.mem_of_getElem? (i := 0) rfl) (List.contains_iff_mem.1 (by kernel_rfl))
      clear hp
      simp only [fillAll, Act.put, List.setIfInBounds_toArray, List.set_cons_zero, List.set_cons_succ]
      refine chain_go ?_ (Wild.free_tells (HT2.out _ _ (a_w3.trans hx) p32))
      simp [go_sem, execOp]
  case htail =>
    intro g u hst hne
    have b_w4 : AnyLater w3 (later u) := ⟨u, rfl⟩
    generalize later u = w4 at *
    clear u hne
    obtain ⟨p32_w4, -⟩ := hst _ (List.mem_of_getElem? (i := 0) rfl)
    (try dsimp only at p32_w4)
    obtain ⟨p33_w4, -⟩ := hst _ (List.mem_of_getElem? (i := 1) rfl)
    (try dsimp only at p33_w4)
    clear hst
    simp only [fillAll, Act.put, List.setIfInBounds_toArray, List.set_cons_zero, List.set_cons_succ, List.drop_succ_cons, List.drop_zero, List.drop_nil]
    generalize g 8 = v32 at *
    generalize g 9 = v33 at *
    have z_w4 := b_w4.below.size
    have a_w4 := a_w3.trans b_w4
    have s0_w4 := any_own b_w4 s0_w3
    have s1_w4 := any_own b_w4 s1_w3
    have r0_w4 := own_row s0_w4
    have f0_w4 := own_free s0_w4
    have l0_w4 := own_lt s0_w4
    have r1_w4 := own_row s1_w4
    have f1_w4 := own_free s1_w4
    have l1_w4 := own_lt s1_w4
    (try clear r0_w3); (try clear f0_w3)
    (try clear r1_w3); (try clear f1_w3)
    go_wp2_with fail
    go_ret
    exact ⟨_, rfl, a_w4, p33_w4⟩
set_option maxRecDepth 100000 in
set_option maxHeartbeats 1600000 in
theorem turnRight_steep (a b c r : Tr) (q s p : Pc) (v rv bv fv : Value) (w : World) (h : IsT w (.node a q (.node b s c)) v) (hr : IsT w r rv) (hp : RIsP w bv fv p) (hF : (Tr.node a q (.node b s c)).Fair) (fp : p.Fair) (fr : r.Fair) (hn : (Tr.node a q (.node b s c)).len + p.b.length + r.len ≤ 90000) (hlev : ¬ (Tr.node b s c).lev ≤ a.lev) :
    Calls Tryd.prog 68 #[v, pcV bv fv p, rv] w (Ans (isT (.node (.node a q b) s (.node c p r))) w) := by
  obtain ⟨fa, fq, fb, fs, fc⟩ := hF
  have hn2 : a.len + q.b.length + (b.len + s.b.length + c.len) + p.b.length + r.len ≤ 90000 := hn
  obtain ⟨k, lv, iv, qv, gv, rfl, hk, ha, hi, hq⟩ := h
  have HNa := Lib.hid (fun (w' : World) (b : AnyLater w w') => noted_any a lv w' (ha.later b))
  have HNi := Lib.hid (fun (w' : World) (e : AnyLater w w') => noted_any (.node b s c) iv w' (hi.later e))
  obtain ⟨k2, xv, yv, sv, tv, rfl, hk2, hb, hc, hs⟩ := hi
  have HT1 := Lib.hid (fun (w' : World) (e : AnyLater w w') => tie_any a b q lv xv qv gv w' (ha.later e) (hb.later e) (hq.later e) fa fb (by simp only [Tr.len]; omega))
  have HT2 := Lib.hid (fun (w' : World) (e : AnyLater w w') => tie_any c r p yv rv bv fv w' (hc.later e) (hr.later e) (hp.later e) fc fr (by simp only [Tr.len]; omega))
  have HT3 := Lib.hid (fun (w' : World) (u u2 : Value) (e : AnyLater w w') (hu : isT (.node a q b) u w') (hu2 : isT (.node c p r) u2 w') => tie_any (.node a q b) (.node c p r) s u u2 sv tv w' hu hu2 (hs.later e) ⟨fa, fq, fb⟩ ⟨fc, fp, fr⟩ (by simp only [Tr.len]; omega))
  have HK := Lib.hid (And.intro hk hk2)
  obtain ⟨A, cap, rfl, -⟩ := hp.1.form
  obtain ⟨A2, cap2, rfl, -⟩ := hp.2.form
  obtain ⟨A3, cap3, rfl, -⟩ := hq.1.form
  obtain ⟨A4, cap4, rfl, -⟩ := hq.2.form
  obtain ⟨A5, cap5, rfl, -⟩ := hs.1.form
  obtain ⟨A6, cap6, rfl, -⟩ := hs.2.form
  unfold nodeC at HK
  unfold sumV at HNa HNi
  unfold pcV at HT1 HT2 HT3 ⊢
  have d1 : decide ((Tr.node b s c).lev ≤ a.lev) = false := decide_eq_false (by omega)
  have f3 := fld3
  clear ha hq hr hp hk hn hn2 hlev hb hc hs hk2
  generalize a.lev = x1 at *
  generalize (Tr.node b s c).lev = x2 at *
  generalize p.b.length = n at *
  generalize p.fs.length = m at *
  generalize p.base = b0 at *
  generalize q.b.length = n2 at *
  generalize q.fs.length = m2 at *
  generalize q.base = b1 at *
  generalize s.b.length = n3 at *
  generalize s.fs.length = m3 at *
  generalize s.base = b3 at *
  go_enter Tryd.func68, Tryd.ntmps68
  go_wp2_with fail
  first | refine settle_wp (fun wS => AnyLater w wS ∧ wS.heap[w.heap.size]? = some (.cells #[.slice A n cap, .slice A2 m cap2, .int .i64 b0] 71)) ?_ ?_ | refine settle_calls (fun wS => AnyLater w wS ∧ wS.heap[w.heap.size]? = some (.cells #[.slice A n cap, .slice A2 m cap2, .int .i64 b0] 71)) ?_ ?_
  · refine ⟨?_, ?_⟩
    · repeat' (first | with_reducible assumption | with_reducible exact AnyLater.refl _ | with_reducible apply AnyLater.setCell | with_reducible apply AnyLater.later | with_reducible apply AnyLater.drewN | with_reducible apply AnyLater.drew | with_reducible apply AnyLater.alloc | ((try simp only [World.size_alloc, World.size_setCell, World.size_drew]); (try dsimp only); omega))
    · ((repeat (first | with_reducible assumption | ((with_reducible apply heap_new); (try simp only [World.size_alloc, World.size_setCell, World.size_drew, World.heap_drewN]); done) | ((with_reducible apply heap_new); (try simp only [World.size_alloc, World.size_setCell, World.size_drew, World.heap_drewN]); omega) | (with_reducible refine heap_old (by (try simp only [World.size_alloc, World.size_setCell, World.size_drew, World.heap_drewN]); omega) ?_) | (with_reducible refine heap_drew ?_) | (with_reducible refine heap_far (by omega) ?_) | (with_reducible apply heap_at))); all_goals rfl)
  rintro w1 ⟨b_w1, s0_w1⟩
  have a_w1 := b_w1
  have r0_w1 := own_row s0_w1
  have f0_w1 := own_free s0_w1
  have l0_w1 := own_lt s0_w1
  have z_w1 := b_w1.below.size
  have s1_w1 := any_own a_w1 HK.out.1
  have s2_w1 := any_own a_w1 HK.out.2
  have r1_w1 := own_row s1_w1
  go_quiet (fail)
  go_wp2_with fail
  refine (HNa.out _ (a_w1.drewN _)).mono ?_
  rintro e w2 ⟨rfl, c2⟩
  have b_w2 : AnyLater w1 w2 := ((AnyLater.refl w1).drewN _).trans c2
  have z_w2 := b_w2.below.size
  have a_w2 := a_w1.trans b_w2
  have s0_w2 := any_own b_w2 s0_w1
  have s1_w2 := any_own b_w2 s1_w1
  have s2_w2 := any_own b_w2 s2_w1
  have r0_w2 := own_row s0_w2
  have f0_w2 := own_free s0_w2
  have l0_w2 := own_lt s0_w2
  have r1_w2 := own_row s1_w2
  have f1_w2 := own_free s1_w2
  have l1_w2 := own_lt s1_w2
  have r2_w2 := own_row s2_w2
  have f2_w2 := own_free s2_w2
  have l2_w2 := own_lt s2_w2
  (try clear r0_w1); (try clear f0_w1)
  (try clear r1_w1); (try clear f1_w1)
  (try clear r2_w1); (try clear f2_w1)
  clear c2
  go_wp2_with fail
  refine (HNi.out _ a_w2).mono ?_
  rintro e w3 ⟨rfl, b_w3⟩
  have z_w3 := b_w3.below.size
  have a_w3 := a_w2.trans b_w3
  have s0_w3 := any_own b_w3 s0_w2
  have s1_w3 := any_own b_w3 s1_w2
  have s2_w3 := any_own b_w3 s2_w2
  have r0_w3 := own_row s0_w3
  have f0_w3 := own_free s0_w3
  have l0_w3 := own_lt s0_w3
  have r1_w3 := own_row s1_w3
  have f1_w3 := own_free s1_w3
  have l1_w3 := own_lt s1_w3
  have r2_w3 := own_row s2_w3
  have f2_w3 := own_free s2_w3
  have l2_w3 := own_lt s2_w3
  (try clear r0_w2); (try clear f0_w2)
  (try clear r1_w2); (try clear f1_w2)
  (try clear r2_w2); (try clear f2_w2)
  go_wp2_with fail
  apply Wild.wp_region_free (22) [⟨9, 43, undef, true, isT (.node a q b)⟩, ⟨20, 54, undef, true, isT (.node c p r)⟩, ⟨21, 55, undef, true, isT (.node (.node a q b) s (.node c p r))⟩] [⟨9, 43, isT (.node a q b)⟩, ⟨20, 54, isT (.node c p r)⟩, ⟨21, 55, isT (.node (.node a q b) s (.node c p r))⟩] rfl (by kernel_rfl) (by kernel_rfl) (by kernel_rfl) (by simp) (by kernel_rfl)
  case hstab =>
    intro c hc
    simp only [List.mem_cons, List.not_mem_nil, or_false] at hc
    rcases hc with rfl | rfl | rfl
    · intro v x y hxy hv; exact isT_stays hxy hv
    · intro v x y hxy hv; exact isT_stays hxy hv
    · intro v x y hxy hv; exact isT_stays hxy hv
  case hfix =>
    intro c hc
    simp only [List.mem_cons, List.not_mem_nil, or_false] at hc
    rcases hc with rfl | rfl | rfl
    · exact .inl rfl
    · exact .inl rfl
    · exact .inl rfl
  case hlex =>
    intro U hU
    have q0 := own_row (any_own hU s0_w3)
    have q1 := own_row (any_own hU s1_w3)
    have q2 := own_row (any_own hU s2_w3)
    simp only [List.map_cons, List.map_nil, CA.act, actFrom, actOp, List.lookup, Nat.reduceBEq, Nat.reduceLeDiff, Nat.reduceAdd, if_false, if_true]
    repeat (go_big_quiet_step (fail))
    exact wpQuiet_nil rfl
  case hstep =>
    intro j hj o ho
    have hj2 : j = 0 ∨ j = 1 ∨ j = 2 := by simp at hj; omega
    rcases hj2 with rfl | rfl | rfl
    · cases ho
      refine ⟨rfl, fun g x hx hp => ?_⟩
      clear hp
      simp only [fillAll, Act.put, List.setIfInBounds_toArray, List.set_cons_zero, List.set_cons_succ]
      refine chain_go ?_ (Wild.free_tells (HT1.out x (a_w3.trans hx)))
      simp [go_sem, execOp]
    · cases ho
      refine ⟨rfl, fun g x hx hp => ?_⟩
      clear hp
      simp only [fillAll, Act.put, List.setIfInBounds_toArray, List.set_cons_zero, List.set_cons_succ]
      refine chain_go ?_ (Wild.free_tells (HT2.out x (a_w3.trans hx)))
      simp [go_sem, execOp]
    · cases ho
      refine ⟨rfl, fun g x hx hp => ?_⟩
      have p43 : (isT (.node a q b)) (g 9) x := hp _ (List.mem_of_getElem? (i := 0) rfl) (List.contains_iff_mem.1 (by kernel_rfl))
      have p54 : (isT (.node c p r)) (g 20) x := hp _ (List.mem_of_getElem? (i := 1) rfl) (List.contains_iff_mem.1 (by kernel_rfl))
      clear hp
      simp only [fillAll, Act.put, List.setIfInBounds_toArray, List.set_cons_zero, List.set_cons_succ]
      refine chain_go ?_ (Wild.free_tells (HT3.out _ _ _ (a_w3.trans hx) p43 p54))
      simp [go_sem, execOp]
  case htail =>
    intro g u hst hne
    have b_w4 : AnyLater w3 (later u) := ⟨u, rfl⟩
    generalize later u = w4 at *
    clear u hne
    obtain ⟨p43_w4, -⟩ := hst _ (List.mem_of_getElem? (i := 0) rfl)
    (try dsimp only at p43_w4)
    obtain ⟨p54_w4, -⟩ := hst _ (List.mem_of_getElem? (i := 1) rfl)
    (try dsimp only at p54_w4)
    obtain ⟨p55_w4, -⟩ := hst _ (List.mem_of_getElem? (i := 2) rfl)
    (try dsimp only at p55_w4)
    clear hst
    simp only [fillAll, Act.put, List.setIfInBounds_toArray, List.set_cons_zero, List.set_cons_succ, List.drop_succ_cons, List.drop_zero, List.drop_nil]
    generalize g 9 = v43 at *
    generalize g 20 = v54 at *
    generalize g 21 = v55 at *
    have z_w4 := b_w4.below.size
    have a_w4 := a_w3.trans b_w4
    have s0_w4 := any_own b_w4 s0_w3
    have s1_w4 := any_own b_w4 s1_w3
    have s2_w4 := any_own b_w4 s2_w3
    have r0_w4 := own_row s0_w4
    have f0_w4 := own_free s0_w4
    have l0_w4 := own_lt s0_w4
    have r1_w4 := own_row s1_w4
    have f1_w4 := own_free s1_w4
    have l1_w4 := own_lt s1_w4
    have r2_w4 := own_row s2_w4
    have f2_w4 := own_free s2_w4
    have l2_w4 := own_lt s2_w4
    (try clear r0_w3); (try clear f0_w3)
    (try clear r1_w3); (try clear f1_w3)
    (try clear r2_w3); (try clear f2_w3)
    go_wp2_with fail
    go_ret
    exact ⟨_, rfl, a_w4, p55_w4⟩
/-- a piece between two parts, of which the left one is too deep -/
theorem turnRight_any (a i r : Tr) (q p : Pc) (v rv bv fv : Value) (w : World) (t : Tr) (ht : Tr.turnR (.node a q i) p r = t) (h : IsT w (.node a q i) v) (hr : IsT w r rv) (hp : RIsP w bv fv p) (hF : (Tr.node a q i).Fair) (fp : p.Fair) (fr : r.Fair) (hn : (Tr.node a q i).len + p.b.length + r.len ≤ 90000) :
    Calls Tryd.prog 68 #[v, pcV bv fv p, rv] w (Ans (isT t) w) := by
  subst ht
  cases i with
  | nil => exact turnRight_flat a .nil r q p v rv bv fv w h hr hp hF fp fr hn (Nat.zero_le _)
  | node b s c =>
    rw [Tr.turnR_node]
    split
    · rename_i hc
      exact turnRight_flat a _ r q p v rv bv fv w h hr hp hF fp fr hn hc
    · rename_i hc
      exact turnRight_steep a b c r q s p v rv bv fv w h hr hp hF fp fr hn hc
set_option maxRecDepth 100000 in
set_option maxHeartbeats 1600000 in
theorem turnLeft_flat (l i o : Tr) (q p : Pc) (v lv bv fv : Value) (w : World) (h : IsT w (.node i q o) v) (hl : IsT w l lv) (hp : RIsP w bv fv p) (hF : (Tr.node i q o).Fair) (fp : p.Fair) (fl : l.Fair) (hn : l.len + p.b.length + (Tr.node i q o).len ≤ 90000) (hlev : i.lev ≤ o.lev) :
    Calls Tryd.prog 69 #[lv, pcV bv fv p, v] w (Ans (isT (.node (.node l p i) q o)) w) := by
  obtain ⟨fi, fq, fo⟩ := hF
  have hn2 : l.len + p.b.length + (i.len + q.b.length + o.len) ≤ 90000 := hn
  obtain ⟨k, iv, ov, qv, gv, rfl, hk, hi, ho, hq⟩ := h
  have HNo := Lib.hid (fun (w' : World) (b : AnyLater w w') => noted_any o ov w' (ho.later b))
  have HNi := Lib.hid (fun (w' : World) (b : AnyLater w w') => noted_any i iv w' (hi.later b))
  have HT1 := Lib.hid (fun (w' : World) (b : AnyLater w w') => tie_any l i p lv iv bv fv w' (hl.later b) (hi.later b) (hp.later b) fl fi (by unfold Tr.len; omega))
  have HT2 := Lib.hid (fun (w' : World) (u : Value) (b : AnyLater w w') (hu : isT (.node l p i) u w') => tie_any (.node l p i) o q u ov qv gv w' hu (ho.later b) (hq.later b) ⟨fl, fp, fi⟩ fo (by simp only [Tr.len]; omega))
  have HK := Lib.hid hk
  obtain ⟨A, cap, rfl, -⟩ := hp.1.form
  obtain ⟨A2, cap2, rfl, -⟩ := hp.2.form
  obtain ⟨A3, cap3, rfl, -⟩ := hq.1.form
  obtain ⟨A4, cap4, rfl, -⟩ := hq.2.form
  unfold nodeC at HK
  unfold sumV at HNo HNi
  unfold pcV at HT1 HT2 ⊢
  have d1 : ((i.lev : Nat) : Int) ≤ (o.lev : Int) := by omega
  have f3 := fld3
  clear hl hi hq ho hp hk hn hn2 hlev
  generalize o.lev = x1 at *
  generalize i.lev = x2 at *
  generalize p.b.length = n at *
  generalize p.fs.length = m at *
  generalize p.base = b0 at *
  generalize q.b.length = n2 at *
  generalize q.fs.length = m2 at *
  generalize q.base = b1 at *
  go_enter Tryd.func69, Tryd.ntmps69
  go_wp2_with fail
  first | refine settle_wp (fun wS => AnyLater w wS ∧ wS.heap[w.heap.size]? = some (.cells #[.slice A n cap, .slice A2 m cap2, .int .i64 b0] 71)) ?_ ?_ | refine settle_calls (fun wS => AnyLater w wS ∧ wS.heap[w.heap.size]? = some (.cells #[.slice A n cap, .slice A2 m cap2, .int .i64 b0] 71)) ?_ ?_
  · refine ⟨?_, ?_⟩
    · repeat' (first | with_reducible assumption | with_reducible exact AnyLater.refl _ | with_reducible apply AnyLater.setCell | with_reducible apply AnyLater.later | with_reducible apply AnyLater.drewN | with_reducible apply AnyLater.drew | with_reducible apply AnyLater.alloc | ((try simp only [World.size_alloc, World.size_setCell, World.size_drew]); (try dsimp only); omega))
    · ((repeat (first | with_reducible assumption | ((with_reducible apply heap_new); (try simp only [World.size_alloc, World.size_setCell, World.size_drew, World.heap_drewN]); done) | ((with_reducible apply heap_new); (try simp only [World.size_alloc, World.size_setCell, World.size_drew, World.heap_drewN]); omega) | (with_reducible refine heap_old (by (try simp only [World.size_alloc, World.size_setCell, World.size_drew, World.heap_drewN]); omega) ?_) | (with_reducible refine heap_drew ?_) | (with_reducible refine heap_far (by omega) ?_) | (with_reducible apply heap_at))); all_goals rfl)
  rintro w1 ⟨b_w1, s0_w1⟩
  have a_w1 := b_w1
  have r0_w1 := own_row s0_w1
  have f0_w1 := own_free s0_w1
  have l0_w1 := own_lt s0_w1
  have z_w1 := b_w1.below.size
  have s1_w1 := any_own a_w1 HK.out
  have r1_w1 := own_row s1_w1
  go_quiet (fail)
  go_wp2_with fail
  refine (HNo.out _ (a_w1.drewN _)).mono ?_
  rintro e w2 ⟨rfl, c2⟩
  have b_w2 : AnyLater w1 w2 := ((AnyLater.refl w1).drewN _).trans c2
  have z_w2 := b_w2.below.size
  have a_w2 := a_w1.trans b_w2
  have s0_w2 := any_own b_w2 s0_w1
  have s1_w2 := any_own b_w2 s1_w1
  have r0_w2 := own_row s0_w2
  have f0_w2 := own_free s0_w2
  have l0_w2 := own_lt s0_w2
  have r1_w2 := own_row s1_w2
  have f1_w2 := own_free s1_w2
  have l1_w2 := own_lt s1_w2
  (try clear r0_w1); (try clear f0_w1)
  (try clear r1_w1); (try clear f1_w1)
  clear c2
  go_wp2_with fail
  refine (HNi.out _ a_w2).mono ?_
  rintro e w3 ⟨rfl, b_w3⟩
  have z_w3 := b_w3.below.size
  have a_w3 := a_w2.trans b_w3
  have s0_w3 := any_own b_w3 s0_w2
  have s1_w3 := any_own b_w3 s1_w2
  have r0_w3 := own_row s0_w3
  have f0_w3 := own_free s0_w3
  have l0_w3 := own_lt s0_w3
  have r1_w3 := own_row s1_w3
  have f1_w3 := own_free s1_w3
  have l1_w3 := own_lt s1_w3
  (try clear r0_w2); (try clear f0_w2)
  (try clear r1_w2); (try clear f1_w2)
  go_wp2_with fail
  apply Wild.wp_region_free (10) [⟨3, 27, undef, true, isT (.node l p i)⟩, ⟨9, 33, undef, true, isT (.node (.node l p i) q o)⟩] [⟨3, 27, isT (.node l p i)⟩, ⟨9, 33, isT (.node (.node l p i) q o)⟩] rfl (by kernel_rfl) (by kernel_rfl) (by kernel_rfl) (by simp) (by kernel_rfl)
  case hstab =>
    intro c hc
    simp only [List.mem_cons, List.not_mem_nil, or_false] at hc
    rcases hc with rfl | rfl
    · intro v x y hxy hv; exact isT_stays hxy hv
    · intro v x y hxy hv; exact isT_stays hxy hv
  case hfix =>
    intro c hc
    simp only [List.mem_cons, List.not_mem_nil, or_false] at hc
    rcases hc with rfl | rfl
    · exact .inl rfl
    · exact .inl rfl
  case hlex =>
    intro U hU
    have q0 := own_row (any_own hU s0_w3)
    have q1 := own_row (any_own hU s1_w3)
    simp only [List.map_cons, List.map_nil, CA.act, actFrom, actOp, List.lookup, Nat.reduceBEq, Nat.reduceLeDiff, Nat.reduceAdd, if_false, if_true]
    repeat (go_big_quiet_step (fail))
    exact wpQuiet_nil rfl
  case hstep =>
    intro j hj o ho
    have hj2 : j = 0 ∨ j = 1 := by simp at hj; omega
    rcases hj2 with rfl | rfl
    · cases ho
      refine ⟨rfl, fun g x hx hp => ?_⟩
      clear hp
      simp only [fillAll, Act.put, List.setIfInBounds_toArray, List.set_cons_zero, List.set_cons_succ]
      refine chain_go ?_ (Wild.free_tells (HT1.out x (a_w3.trans hx)))
      simp [go_sem, execOp]
    · cases ho
      refine ⟨rfl, fun g x hx hp => ?_⟩
      have p27 : (isT (.node l p i)) (g 3) x := hp _ (List.mem_of_getElem? (i := 0) rfl) (List.contains_iff_mem.1 (by kernel_rfl))
      clear hp
      simp only [fillAll, Act.put, List.setIfInBounds_toArray, List.set_cons_zero, List.set_cons_succ]
      refine chain_go ?_ (Wild.free_tells (HT2.out _ _ (a_w3.trans hx) p27))
      simp [go_sem, execOp]
  case htail =>
    intro g u hst hne
    have b_w4 : AnyLater w3 (later u) := ⟨u, rfl⟩
    generalize later u = w4 at *
    clear u hne
    obtain ⟨p27_w4, -⟩ := hst _ (List.mem_of_getElem? (i := 0) rfl)
    (try dsimp only at p27_w4)
    obtain ⟨p33_w4, -⟩ := hst _ (List.mem_of_getElem? (i := 1) rfl)
    (try dsimp only at p33_w4)
    clear hst
    simp only [fillAll, Act.put, List.setIfInBounds_toArray, List.set_cons_zero, List.set_cons_succ, List.drop_succ_cons, List.drop_zero, List.drop_nil]
    generalize g 3 = v27 at *
    generalize g 9 = v33 at *
    have z_w4 := b_w4.below.size
    have a_w4 := a_w3.trans b_w4
    have s0_w4 := any_own b_w4 s0_w3
    have s1_w4 := any_own b_w4 s1_w3
    have r0_w4 := own_row s0_w4
    have f0_w4 := own_free s0_w4
    have l0_w4 := own_lt s0_w4
    have r1_w4 := own_row s1_w4
    have f1_w4 := own_free s1_w4
    have l1_w4 := own_lt s1_w4
    (try clear r0_w3); (try clear f0_w3)
    (try clear r1_w3); (try clear f1_w3)
    go_wp2_with fail
    go_ret
    exact ⟨_, rfl, a_w4, p33_w4⟩
set_option maxRecDepth 100000 in
set_option maxHeartbeats 1600000 in
theorem turnLeft_steep (l b c o : Tr) (q s p : Pc) (v lv bv fv : Value) (w : World) (h : IsT w (.node (.node b s c) q o) v) (hl : IsT w l lv) (hp : RIsP w bv fv p) (hF : (Tr.node (.node b s c) q o).Fair) (fp : p.Fair) (fl : l.Fair) (hn : l.len + p.b.length + (Tr.node (.node b s c) q o).len ≤ 90000) (hlev : ¬ (Tr.node b s c).lev ≤ o.lev) :
    Calls Tryd.prog 69 #[lv, pcV bv fv p, v] w (Ans (isT (.node (.node l p b) s (.node c q o))) w) := by
  obtain ⟨⟨fb, fs, fc⟩, fq, fo⟩ := hF
  have hn2 : l.len + p.b.length + ((b.len + s.b.length + c.len) + q.b.length + o.len) ≤ 90000 := hn
  obtain ⟨k, iv, ov, qv, gv, rfl, hk, hi, ho, hq⟩ := h
  have HNo := Lib.hid (fun (w' : World) (b : AnyLater w w') => noted_any o ov w' (ho.later b))
  have HNi := Lib.hid (fun (w' : World) (e : AnyLater w w') => noted_any (.node b s c) iv w' (hi.later e))
  obtain ⟨k2, xv, yv, sv, tv, rfl, hk2, hb, hc, hs⟩ := hi
  have HT1 := Lib.hid (fun (w' : World) (e : AnyLater w w') => tie_any l b p lv xv bv fv w' (hl.later e) (hb.later e) (hp.later e) fl fb (by simp only [Tr.len]; omega))
  have HT2 := Lib.hid (fun (w' : World) (e : AnyLater w w') => tie_any c o q yv ov qv gv w' (hc.later e) (ho.later e) (hq.later e) fc fo (by simp only [Tr.len]; omega))
  have HT3 := Lib.hid (fun (w' : World) (u u2 : Value) (e : AnyLater w w') (hu : isT (.node l p b) u w') (hu2 : isT (.node c q o) u2 w') => tie_any (.node l p b) (.node c q o) s u u2 sv tv w' hu hu2 (hs.later e) ⟨fl, fp, fb⟩ ⟨fc, fq, fo⟩ (by simp only [Tr.len]; omega))
  have HK := Lib.hid (And.intro hk hk2)
  obtain ⟨A, cap, rfl, -⟩ := hp.1.form
  obtain ⟨A2, cap2, rfl, -⟩ := hp.2.form
  obtain ⟨A3, cap3, rfl, -⟩ := hq.1.form
  obtain ⟨A4, cap4, rfl, -⟩ := hq.2.form
  obtain ⟨A5, cap5, rfl, -⟩ := hs.1.form
  obtain ⟨A6, cap6, rfl, -⟩ := hs.2.form
  unfold nodeC at HK
  unfold sumV at HNo HNi
  unfold pcV at HT1 HT2 HT3 ⊢
  have d1 : decide ((Tr.node b s c).lev ≤ o.lev) = false := decide_eq_false (by omega)
  have f3 := fld3
  clear hl hq ho hp hk hn hn2 hlev hb hc hs hk2
  generalize o.lev = x1 at *
  generalize (Tr.node b s c).lev = x2 at *
  generalize p.b.length = n at *
  generalize p.fs.length = m at *
  generalize p.base = b0 at *
  generalize q.b.length = n2 at *
  generalize q.fs.length = m2 at *
  generalize q.base = b1 at *
  generalize s.b.length = n3 at *
  generalize s.fs.length = m3 at *
  generalize s.base = b3 at *
  go_enter Tryd.func69, Tryd.ntmps69
  go_wp2_with fail
  first | refine settle_wp (fun wS => AnyLater w wS ∧ wS.heap[w.heap.size]? = some (.cells #[.slice A n cap, .slice A2 m cap2, .int .i64 b0] 71)) ?_ ?_ | refine settle_calls (fun wS => AnyLater w wS ∧ wS.heap[w.heap.size]? = some (.cells #[.slice A n cap, .slice A2 m cap2, .int .i64 b0] 71)) ?_ ?_
  · refine ⟨?_, ?_⟩
    · repeat' (first | with_reducible assumption | with_reducible exact AnyLater.refl _ | with_reducible apply AnyLater.setCell | with_reducible apply AnyLater.later | with_reducible apply AnyLater.drewN | with_reducible apply AnyLater.drew | with_reducible apply AnyLater.alloc | ((try simp only [World.size_alloc, World.size_setCell, World.size_drew]); (try dsimp only); omega))
    · ((repeat (first | with_reducible assumption | ((with_reducible apply heap_new); (try simp only [World.size_alloc, World.size_setCell, World.size_drew, World.heap_drewN]); done) | ((with_reducible apply heap_new); (try simp only [World.size_alloc, World.size_setCell, World.size_drew, World.heap_drewN]); omega) | (with_reducible refine heap_old (by (try simp only [World.size_alloc, World.size_setCell, World.size_drew, World.heap_drewN]); omega) ?_) | (with_reducible refine heap_drew ?_) | (with_reducible refine heap_far (by omega) ?_) | (with_reducible apply heap_at))); all_goals rfl)
  rintro w1 ⟨b_w1, s0_w1⟩
  have a_w1 := b_w1
  have r0_w1 := own_row s0_w1
  have f0_w1 := own_free s0_w1
  have l0_w1 := own_lt s0_w1
  have z_w1 := b_w1.below.size
  have s1_w1 := any_own a_w1 HK.out.1
  have s2_w1 := any_own a_w1 HK.out.2
  have r1_w1 := own_row s1_w1
  go_quiet (fail)
  go_wp2_with fail
  refine (HNo.out _ (a_w1.drewN _)).mono ?_
  rintro e w2 ⟨rfl, c2⟩
  have b_w2 : AnyLater w1 w2 := ((AnyLater.refl w1).drewN _).trans c2
  have z_w2 := b_w2.below.size
  have a_w2 := a_w1.trans b_w2
  have s0_w2 := any_own b_w2 s0_w1
  have s1_w2 := any_own b_w2 s1_w1
  have s2_w2 := any_own b_w2 s2_w1
  have r0_w2 := own_row s0_w2
  have f0_w2 := own_free s0_w2
  have l0_w2 := own_lt s0_w2
  have r1_w2 := own_row s1_w2
  have f1_w2 := own_free s1_w2
  have l1_w2 := own_lt s1_w2
  have r2_w2 := own_row s2_w2
  have f2_w2 := own_free s2_w2
  have l2_w2 := own_lt s2_w2
  (try clear r0_w1); (try clear f0_w1)
  (try clear r1_w1); (try clear f1_w1)
  (try clear r2_w1); (try clear f2_w1)
  clear c2
  go_wp2_with fail
  refine (HNi.out _ a_w2).mono ?_
  rintro e w3 ⟨rfl, b_w3⟩
  have z_w3 := b_w3.below.size
  have a_w3 := a_w2.trans b_w3
  have s0_w3 := any_own b_w3 s0_w2
  have s1_w3 := any_own b_w3 s1_w2
  have s2_w3 := any_own b_w3 s2_w2
  have r0_w3 := own_row s0_w3
  have f0_w3 := own_free s0_w3
  have l0_w3 := own_lt s0_w3
  have r1_w3 := own_row s1_w3
  have f1_w3 := own_free s1_w3
  have l1_w3 := own_lt s1_w3
  have r2_w3 := own_row s2_w3
  have f2_w3 := own_free s2_w3
  have l2_w3 := own_lt s2_w3
  (try clear r0_w2); (try clear f0_w2)
  (try clear r1_w2); (try clear f1_w2)
  (try clear r2_w2); (try clear f2_w2)
  go_wp2_with fail
  apply Wild.wp_region_free (22) [⟨6, 40, undef, true, isT (.node l p b)⟩, ⟨20, 54, undef, true, isT (.node c q o)⟩, ⟨21, 55, undef, true, isT (.node (.node l p b) s (.node c q o))⟩] [⟨6, 40, isT (.node l p b)⟩, ⟨20, 54, isT (.node c q o)⟩, ⟨21, 55, isT (.node (.node l p b) s (.node c q o))⟩] rfl (by kernel_rfl) (by kernel_rfl) (by kernel_rfl) (by simp) (by kernel_rfl)
  case hstab =>
    intro c hc
    simp only [List.mem_cons, List.not_mem_nil, or_false] at hc
    rcases hc with rfl | rfl | rfl
    · intro v x y hxy hv; exact isT_stays hxy hv
    · intro v x y hxy hv; exact isT_stays hxy hv
    · intro v x y hxy hv; exact isT_stays hxy hv
  case hfix =>
    intro c hc
    simp only [List.mem_cons, List.not_mem_nil, or_false] at hc
    rcases hc with rfl | rfl | rfl
    · exact .inl rfl
    · exact .inl rfl
    · exact .inl rfl
  case hlex =>
    intro U hU
    have q0 := own_row (any_own hU s0_w3)
    have q1 := own_row (any_own hU s1_w3)
    have q2 := own_row (any_own hU s2_w3)
    simp only [List.map_cons, List.map_nil, CA.act, actFrom, actOp, List.lookup, Nat.reduceBEq, Nat.reduceLeDiff, Nat.reduceAdd, if_false, if_true]
    repeat (go_big_quiet_step (fail))
    exact wpQuiet_nil rfl
  case hstep =>
    intro j hj o ho
    have hj2 : j = 0 ∨ j = 1 ∨ j = 2 := by simp at hj; omega
    rcases hj2 with rfl | rfl | rfl
    · cases ho
      refine ⟨rfl, fun g x hx hp => ?_⟩
      clear hp
      simp only [fillAll, Act.put, List.setIfInBounds_toArray, List.set_cons_zero, List.set_cons_succ]
      refine chain_go ?_ (Wild.free_tells (HT1.out x (a_w3.trans hx)))
      simp [go_sem, execOp]
    · cases ho
      refine ⟨rfl, fun g x hx hp => ?_⟩
      clear hp
      simp only [fillAll, Act.put, List.setIfInBounds_toArray, List.set_cons_zero, List.set_cons_succ]
      refine chain_go ?_ (Wild.free_tells (HT2.out x (a_w3.trans hx)))
      simp [go_sem, execOp]
    · cases ho
      refine ⟨rfl, fun g x hx hp => ?_⟩
      have p40 : (isT (.node l p b)) (g 6) x := hp _ (List.mem_of_getElem? (i := 0) rfl) (List.contains_iff_mem.1 (by kernel_rfl))
      have p54 : (isT (.node c q o)) (g 20) x := hp _ (List.mem_of_getElem? (i := 1) rfl) (List.contains_iff_mem.1 (by kernel_rfl))
      clear hp
      simp only [fillAll, Act.put, List.setIfInBounds_toArray, List.set_cons_zero, List.set_cons_succ]
      refine chain_go ?_ (Wild.free_tells (HT3.out _ _ _ (a_w3.trans hx) p40 p54))
      simp [go_sem, execOp]
  case htail =>
    intro g u hst hne
    have b_w4 : AnyLater w3 (later u) := ⟨u, rfl⟩
    generalize later u = w4 at *
    clear u hne
    obtain ⟨p40_w4, -⟩ := hst _ (List.mem_of_getElem? (i := 0) rfl)
    (try dsimp only at p40_w4)
    obtain ⟨p54_w4, -⟩ := hst _ (List.mem_of_getElem? (i := 1) rfl)
    (try dsimp only at p54_w4)
    obtain ⟨p55_w4, -⟩ := hst _ (List.mem_of_getElem? (i := 2) rfl)
    (try dsimp only at p55_w4)
    clear hst
    simp only [fillAll, Act.put, List.setIfInBounds_toArray, List.set_cons_zero, List.set_cons_succ, List.drop_succ_cons, List.drop_zero, List.drop_nil]
    generalize g 6 = v40 at *
    generalize g 20 = v54 at *
    generalize g 21 = v55 at *
    have z_w4 := b_w4.below.size
    have a_w4 := a_w3.trans b_w4
    have s0_w4 := any_own b_w4 s0_w3
    have s1_w4 := any_own b_w4 s1_w3
    have s2_w4 := any_own b_w4 s2_w3
    have r0_w4 := own_row s0_w4
    have f0_w4 := own_free s0_w4
    have l0_w4 := own_lt s0_w4
    have r1_w4 := own_row s1_w4
    have f1_w4 := own_free s1_w4
    have l1_w4 := own_lt s1_w4
    have r2_w4 := own_row s2_w4
    have f2_w4 := own_free s2_w4
    have l2_w4 := own_lt s2_w4
    (try clear r0_w3); (try clear f0_w3)
    (try clear r1_w3); (try clear f1_w3)
    (try clear r2_w3); (try clear f2_w3)
    go_wp2_with fail
    go_ret
    exact ⟨_, rfl, a_w4, p55_w4⟩
/-- a piece between two parts, of which the right one is too deep -/
theorem turnLeft_any (l i o : Tr) (q p : Pc) (v lv bv fv : Value) (w : World) (t : Tr) (ht : Tr.turnL l p (.node i q o) = t) (h : IsT w (.node i q o) v) (hl : IsT w l lv) (hp : RIsP w bv fv p) (hF : (Tr.node i q o).Fair) (fp : p.Fair) (fl : l.Fair) (hn : l.len + p.b.length + (Tr.node i q o).len ≤ 90000) :
    Calls Tryd.prog 69 #[lv, pcV bv fv p, v] w (Ans (isT t) w) := by
  subst ht
  cases i with
  | nil => exact turnLeft_flat l .nil o q p v lv bv fv w h hl hp hF fp fl hn (Nat.zero_le _)
  | node b s c =>
    rw [Tr.turnL_node]
    split
    · rename_i hc
      exact turnLeft_flat l _ o q p v lv bv fv w h hl hp hF fp fl hn hc
    · rename_i hc
      exact turnLeft_steep l b c o q s p v lv bv fv w h hl hp hF fp fl hn hc
end Go.Proofs.YtkobnijjahpifaaDoor
namespace Go.Proofs.YtkobnijjahpifaaDoor
set_option linter.unusedSimpArgs false
set_option linter.unusedVariables false
set_option linter.unusedSectionVars false
open Go.RowKit

theorem Tr.lev_small {t : Tr} (f : t.Fair) (h : t.len ≤ 90000) : t.lev ≤ 90000 := by
  have h1 := t.np_le f
  have h2 := t.lev_le
  omega
set_option maxRecDepth 100000 in
set_option maxHeartbeats 1600000 in
/-- a piece between two parts, of which one may be one level too deep -/
theorem even_any (l r : Tr) (p : Pc) (lv rv bv fv : Value) (w : World) (t : Tr) (ht : Tr.even l p r = t) (hl : IsT w l lv) (hr : IsT w r rv) (hp : RIsP w bv fv p) (fl : l.Fair) (fp : p.Fair) (fr : r.Fair) (hn : l.len + p.b.length + r.len ≤ 90000) :
    Calls Tryd.prog 55 #[lv, pcV bv fv p, rv] w (Ans (isT t) w) := by
  have v1 := Tr.lev_small fl (by omega)
  have v2 := Tr.lev_small fr (by omega)
  unfold Tr.even at ht
  by_cases c1 : r.lev + 2 < l.lev
  · have HD := Lib.hid (fun (w' : World) (b : AnyLater w w') => deeper_any l r lv rv w' true (by simpa using c1) (hl.later b) (hr.later b) v1 v2)
    rw [if_pos c1] at ht
    have HT : Hid (∀ (w' : World), AnyLater w w' → Calls Tryd.prog 68 #[lv, pcV bv fv p, rv] w' (Ans (isT t) w')) := Lib.hid (fun w' b => by
      cases l with
      | nil => simp [Tr.lev] at c1
      | node a q i => exact turnRight_any a i r q p lv rv bv fv w' t ht (hl.later b) (hr.later b) (hp.later b) fl fp fr hn)
    obtain ⟨A, cap, rfl, -⟩ := hp.1.form
    obtain ⟨A2, cap2, rfl, -⟩ := hp.2.form
    unfold pcV at HT ⊢
    clear hl hr hp fl fp fr hn ht c1 v1 v2
    generalize p.b.length = n at *
    generalize p.fs.length = m at *
    generalize p.base = b0 at *
    go_enter Tryd.func55, Tryd.ntmps55
    go_wp2_with fail
    first | refine settle_wp (fun wS => AnyLater w wS ∧ wS.heap[w.heap.size]? = some (.cells #[.slice A n cap, .slice A2 m cap2, .int .i64 b0] 71)) ?_ ?_ | refine settle_calls (fun wS => AnyLater w wS ∧ wS.heap[w.heap.size]? = some (.cells #[.slice A n cap, .slice A2 m cap2, .int .i64 b0] 71)) ?_ ?_
    · refine ⟨?_, ?_⟩
      · repeat' (first | with_reducible assumption | with_reducible exact AnyLater.refl _ | with_reducible apply AnyLater.setCell | with_reducible apply AnyLater.later | with_reducible apply AnyLater.drewN | with_reducible apply AnyLater.drew | with_reducible apply AnyLater.alloc | ((try simp only [World.size_alloc, World.size_setCell, World.size_drew]); (try dsimp only); omega))
      · ((repeat (first | with_reducible assumption | ((with_reducible apply heap_new); (try simp only [World.size_alloc, World.size_setCell, World.size_drew, World.heap_drewN]); done) | ((with_reducible apply heap_new); (try simp only [World.size_alloc, World.size_setCell, World.size_drew, World.heap_drewN]); omega) | (with_reducible refine heap_old (by (try simp only [World.size_alloc, World.size_setCell, World.size_drew, World.heap_drewN]); omega) ?_) | (with_reducible refine heap_drew ?_) | (with_reducible refine heap_far (by omega) ?_) | (with_reducible apply heap_at))); all_goals rfl)
    rintro w1 ⟨b_w1, s0_w1⟩
    have a_w1 := b_w1
    have r0_w1 := own_row s0_w1
    have f0_w1 := own_free s0_w1
    have l0_w1 := own_lt s0_w1
    have z_w1 := b_w1.below.size
    refine (HD.out _ (by assumption)).mono ?_
    rintro e w2 ⟨rfl, b_w2⟩
    have z_w2 := b_w2.below.size
    have a_w2 := a_w1.trans b_w2
    have s0_w2 := any_own b_w2 s0_w1
    have r0_w2 := own_row s0_w2
    have f0_w2 := own_free s0_w2
    have l0_w2 := own_lt s0_w2
    (try clear r0_w1); (try clear f0_w1)
    go_wp2_with fail
    refine (HT.out _ a_w2).mono ?_
    rintro e w3 ⟨u, rfl, b3, hu⟩
    have HU := Lib.hid (And.intro (a_w2.trans b3) hu)
    clear b3 hu
    go_wp2_with fail
    go_ret
    exact ⟨_, rfl, HU.out.1, HU.out.2⟩
  · have HD := Lib.hid (fun (w' : World) (b : AnyLater w w') => deeper_any l r lv rv w' false (by simpa using c1) (hl.later b) (hr.later b) v1 v2)
    rw [if_neg c1] at ht
    by_cases c2 : l.lev + 2 < r.lev
    · have HD2 := Lib.hid (fun (w' : World) (b : AnyLater w w') => deeper_any r l rv lv w' true (by simpa using c2) (hr.later b) (hl.later b) v2 v1)
      rw [if_pos c2] at ht
      have HT : Hid (∀ (w' : World), AnyLater w w' → Calls Tryd.prog 69 #[lv, pcV bv fv p, rv] w' (Ans (isT t) w')) := Lib.hid (fun w' b => by
        cases r with
        | nil => simp [Tr.lev] at c2
        | node i q o => exact turnLeft_any l i o q p rv lv bv fv w' t ht (hr.later b) (hl.later b) (hp.later b) fr fp fl hn)
      obtain ⟨A, cap, rfl, -⟩ := hp.1.form
      obtain ⟨A2, cap2, rfl, -⟩ := hp.2.form
      unfold pcV at HT ⊢
      clear hl hr hp fl fp fr hn ht c1 c2 v1 v2
      generalize p.b.length = n at *
      generalize p.fs.length = m at *
      generalize p.base = b0 at *
      go_enter Tryd.func55, Tryd.ntmps55
      go_wp2_with fail
      first | refine settle_wp (fun wS => AnyLater w wS ∧ wS.heap[w.heap.size]? = some (.cells #[.slice A n cap, .slice A2 m cap2, .int .i64 b0] 71)) ?_ ?_ | refine settle_calls (fun wS => AnyLater w wS ∧ wS.heap[w.heap.size]? = some (.cells #[.slice A n cap, .slice A2 m cap2, .int .i64 b0] 71)) ?_ ?_
      · refine ⟨?_, ?_⟩
        · repeat' (first | with_reducible assumption | with_reducible exact AnyLater.refl _ | with_reducible apply AnyLater.setCell | with_reducible apply AnyLater.later | with_reducible apply AnyLater.drewN | with_reducible apply AnyLater.drew | with_reducible apply AnyLater.alloc | ((try simp only [World.size_alloc, World.size_setCell, World.size_drew]); (try dsimp only); omega))
        · ((repeat (first | with_reducible assumption | ((with_reducible apply heap_new); (try simp only [World.size_alloc, World.size_setCell, World.size_drew, World.heap_drewN]); done) | ((with_reducible apply heap_new); (try simp only [World.size_alloc, World.size_setCell, World.size_drew, World.heap_drewN]); omega) | (with_reducible refine heap_old (by (try simp only [World.size_alloc, World.size_setCell, World.size_drew, World.heap_drewN]); omega) ?_) | (with_reducible refine heap_drew ?_) | (with_reducible refine heap_far (by omega) ?_) | (with_reducible apply heap_at))); all_goals rfl)
      rintro w1 ⟨b_w1, s0_w1⟩
      have a_w1 := b_w1
      have r0_w1 := own_row s0_w1
      have f0_w1 := own_free s0_w1
      have l0_w1 := own_lt s0_w1
      have z_w1 := b_w1.below.size
      refine (HD.out _ (by assumption)).mono ?_
      rintro e w2 ⟨rfl, b_w2⟩
      have z_w2 := b_w2.below.size
      have a_w2 := a_w1.trans b_w2
      have s0_w2 := any_own b_w2 s0_w1
      have r0_w2 := own_row s0_w2
      have f0_w2 := own_free s0_w2
      have l0_w2 := own_lt s0_w2
      (try clear r0_w1); (try clear f0_w1)
      go_wp2_with fail
      refine (HD2.out _ (by assumption)).mono ?_
      rintro e w3 ⟨rfl, b_w3⟩
      have z_w3 := b_w3.below.size
      have a_w3 := a_w2.trans b_w3
      have s0_w3 := any_own b_w3 s0_w2
      have r0_w3 := own_row s0_w3
      have f0_w3 := own_free s0_w3
      have l0_w3 := own_lt s0_w3
      (try clear r0_w2); (try clear f0_w2)
      go_wp2_with fail
      refine (HT.out _ a_w3).mono ?_
      rintro e w4 ⟨u, rfl, b4, hu⟩
      have HU := Lib.hid (And.intro (a_w3.trans b4) hu)
      clear b4 hu
      go_wp2_with fail
      go_ret
      exact ⟨_, rfl, HU.out.1, HU.out.2⟩
    · have HD2 := Lib.hid (fun (w' : World) (b : AnyLater w w') => deeper_any r l rv lv w' false (by simpa using c2) (hr.later b) (hl.later b) v2 v1)
      rw [if_neg c2] at ht
      have HT : Hid (∀ (w' : World), AnyLater w w' → Calls Tryd.prog 56 #[lv, pcV bv fv p, rv] w' (Ans (isT t) w')) := Lib.hid (fun w' b => by
        subst ht
        exact tie_any l r p lv rv bv fv w' (hl.later b) (hr.later b) (hp.later b) fl fr hn)
      obtain ⟨A, cap, rfl, -⟩ := hp.1.form
      obtain ⟨A2, cap2, rfl, -⟩ := hp.2.form
      unfold pcV at HT ⊢
      clear hl hr hp fl fp fr hn ht c1 c2 v1 v2
      generalize p.b.length = n at *
      generalize p.fs.length = m at *
      generalize p.base = b0 at *
      go_enter Tryd.func55, Tryd.ntmps55
      go_wp2_with fail
      first | refine settle_wp (fun wS => AnyLater w wS ∧ wS.heap[w.heap.size]? = some (.cells #[.slice A n cap, .slice A2 m cap2, .int .i64 b0] 71)) ?_ ?_ | refine settle_calls (fun wS => AnyLater w wS ∧ wS.heap[w.heap.size]? = some (.cells #[.slice A n cap, .slice A2 m cap2, .int .i64 b0] 71)) ?_ ?_
      · refine ⟨?_, ?_⟩
        · repeat' (first | with_reducible assumption | with_reducible exact AnyLater.refl _ | with_reducible apply AnyLater.setCell | with_reducible apply AnyLater.later | with_reducible apply AnyLater.drewN | with_reducible apply AnyLater.drew | with_reducible apply AnyLater.alloc | ((try simp only [World.size_alloc, World.size_setCell, World.size_drew]); (try dsimp only); omega))
        · ((repeat (first | with_reducible assumption | ((with_reducible apply heap_new); (try simp only [World.size_alloc, World.size_setCell, World.size_drew, World.heap_drewN]); done) | ((with_reducible apply heap_new); (try simp only [World.size_alloc, World.size_setCell, World.size_drew, World.heap_drewN]); omega) | (with_reducible refine heap_old (by (try simp only [World.size_alloc, World.size_setCell, World.size_drew, World.heap_drewN]); omega) ?_) | (with_reducible refine heap_drew ?_) | (with_reducible refine heap_far (by omega) ?_) | (with_reducible apply heap_at))); all_goals rfl)
      rintro w1 ⟨b_w1, s0_w1⟩
      have a_w1 := b_w1
      have r0_w1 := own_row s0_w1
      have f0_w1 := own_free s0_w1
      have l0_w1 := own_lt s0_w1
      have z_w1 := b_w1.below.size
      refine (HD.out _ (by assumption)).mono ?_
      rintro e w2 ⟨rfl, b_w2⟩
      have z_w2 := b_w2.below.size
      have a_w2 := a_w1.trans b_w2
      have s0_w2 := any_own b_w2 s0_w1
      have r0_w2 := own_row s0_w2
      have f0_w2 := own_free s0_w2
      have l0_w2 := own_lt s0_w2
      (try clear r0_w1); (try clear f0_w1)
      go_wp2_with fail
      refine (HD2.out _ (by assumption)).mono ?_
      rintro e w3 ⟨rfl, b_w3⟩
      have z_w3 := b_w3.below.size
      have a_w3 := a_w2.trans b_w3
      have s0_w3 := any_own b_w3 s0_w2
      have r0_w3 := own_row s0_w3
      have f0_w3 := own_free s0_w3
      have l0_w3 := own_lt s0_w3
      (try clear r0_w2); (try clear f0_w2)
      go_wp2_with fail
      refine (HT.out _ a_w3).mono ?_
      rintro e w4 ⟨u, rfl, b4, hu⟩
      have HU := Lib.hid (And.intro (a_w3.trans b4) hu)
      clear b4 hu
      go_wp2_with fail
      go_ret
      exact ⟨_, rfl, HU.out.1, HU.out.2⟩

/-! ### joined -/
def JoinsTo (n : Nat) : Prop := ∀ (l r : Tr) (p : Pc) (lv rv bv fv : Value) (w : World) (t : Tr), l.np + r.np ≤ n → Tr.join l p r = t → IsT w l lv → IsT w r rv → RIsP w bv fv p → l.Fair → p.Fair → r.Fair → l.len + p.b.length + r.len ≤ 90000 →
    Calls Tryd.prog 40 #[lv, pcV bv fv p, rv] w (Ans (isT t) w)
set_option maxRecDepth 100000 in
set_option maxHeartbeats 1600000 in
theorem join_tied (l r : Tr) (p : Pc) (lv rv bv fv : Value) (w : World) (hl : IsT w l lv) (hr : IsT w r rv) (hp : RIsP w bv fv p) (fl : l.Fair) (fr : r.Fair) (hn : l.len + p.b.length + r.len ≤ 90000) (c1 : ¬ r.lev + 2 < l.lev) (c2 : ¬ l.lev + 2 < r.lev) :
    Calls Tryd.prog 40 #[lv, pcV bv fv p, rv] w (Ans (isT (.node l p r)) w) := by
  have v1 := Tr.lev_small fl (by omega)
  have v2 := Tr.lev_small fr (by omega)
  have HD := Lib.hid (fun (w' : World) (b : AnyLater w w') => deeper_any l r lv rv w' false (by simpa using c1) (hl.later b) (hr.later b) v1 v2)
  have HD2 := Lib.hid (fun (w' : World) (b : AnyLater w w') => deeper_any r l rv lv w' false (by simpa using c2) (hr.later b) (hl.later b) v2 v1)
  have HT : Hid (∀ (w' : World), AnyLater w w' → Calls Tryd.prog 56 #[lv, pcV bv fv p, rv] w' (Ans (isT (.node l p r)) w')) := Lib.hid (fun w' b => tie_any l r p lv rv bv fv w' (hl.later b) (hr.later b) (hp.later b) fl fr hn)
  obtain ⟨A, cap, rfl, -⟩ := hp.1.form
  obtain ⟨A2, cap2, rfl, -⟩ := hp.2.form
  unfold pcV at HT ⊢
  clear hl hr hp fl fr hn c1 c2 v1 v2
  generalize p.b.length = n at *
  generalize p.fs.length = m at *
  generalize p.base = b0 at *
  go_enter Tryd.func40, Tryd.ntmps40
  go_wp2_with fail
  first | refine settle_wp (fun wS => AnyLater w wS ∧ wS.heap[w.heap.size]? = some (.cells #[.slice A n cap, .slice A2 m cap2, .int .i64 b0] 71)) ?_ ?_ | refine settle_calls (fun wS => AnyLater w wS ∧ wS.heap[w.heap.size]? = some (.cells #[.slice A n cap, .slice A2 m cap2, .int .i64 b0] 71)) ?_ ?_
  · refine ⟨?_, ?_⟩
    · repeat' (first | with_reducible assumption | with_reducible exact AnyLater.refl _ | with_reducible apply AnyLater.setCell | with_reducible apply AnyLater.later | with_reducible apply AnyLater.drewN | with_reducible apply AnyLater.drew | with_reducible apply AnyLater.alloc | ((try simp only [World.size_alloc, World.size_setCell, World.size_drew]); (try dsimp only); omega))
    · ((repeat (first | with_reducible assumption | ((with_reducible apply heap_new); (try simp only [World.size_alloc, World.size_setCell, World.size_drew, World.heap_drewN]); done) | ((with_reducible apply heap_new); (try simp only [World.size_alloc, World.size_setCell, World.size_drew, World.heap_drewN]); omega) | (with_reducible refine heap_old (by (try simp only [World.size_alloc, World.size_setCell, World.size_drew, World.heap_drewN]); omega) ?_) | (with_reducible refine heap_drew ?_) | (with_reducible refine heap_far (by omega) ?_) | (with_reducible apply heap_at))); all_goals rfl)
  rintro w1 ⟨b_w1, s0_w1⟩
  have a_w1 := b_w1
  have r0_w1 := own_row s0_w1
  have f0_w1 := own_free s0_w1
  have l0_w1 := own_lt s0_w1
  have z_w1 := b_w1.below.size
  refine (HD.out _ (by assumption)).mono ?_
  rintro e w2 ⟨rfl, b_w2⟩
  have z_w2 := b_w2.below.size
  have a_w2 := a_w1.trans b_w2
  have s0_w2 := any_own b_w2 s0_w1
  have r0_w2 := own_row s0_w2
  have f0_w2 := own_free s0_w2
  have l0_w2 := own_lt s0_w2
  (try clear r0_w1); (try clear f0_w1)
  go_wp2_with fail
  refine (HD2.out _ (by assumption)).mono ?_
  rintro e w3 ⟨rfl, b_w3⟩
  have z_w3 := b_w3.below.size
  have a_w3 := a_w2.trans b_w3
  have s0_w3 := any_own b_w3 s0_w2
  have r0_w3 := own_row s0_w3
  have f0_w3 := own_free s0_w3
  have l0_w3 := own_lt s0_w3
  (try clear r0_w2); (try clear f0_w2)
  go_wp2_with fail
  refine (HT.out _ a_w3).mono ?_
  rintro e w4 ⟨u, rfl, b4, hu⟩
  have HU := Lib.hid (And.intro (a_w3.trans b4) hu)
  clear b4 hu
  go_wp2_with fail
  go_ret
  exact ⟨_, rfl, HU.out.1, HU.out.2⟩
set_option maxRecDepth 100000 in
set_option maxHeartbeats 1600000 in
theorem join_left (N : Nat) (ih : JoinsTo N) (a b r : Tr) (q p : Pc) (v rv bv fv : Value) (w : World) (hN : b.np + r.np ≤ N) (h : IsT w (.node a q b) v) (hr : IsT w r rv) (hp : RIsP w bv fv p) (hF : (Tr.node a q b).Fair) (fp : p.Fair) (fr : r.Fair) (hn : (Tr.node a q b).len + p.b.length + r.len ≤ 90000) (c1 : r.lev + 2 < (Tr.node a q b).lev) :
    Calls Tryd.prog 40 #[v, pcV bv fv p, rv] w (Ans (isT (Tr.even a q (Tr.join b p r))) w) := by
  have v1 := Tr.lev_small hF (by omega)
  have v2 := Tr.lev_small fr (by omega)
  have hn2 : a.len + q.b.length + b.len + p.b.length + r.len ≤ 90000 := hn
  have HD := Lib.hid (fun (w' : World) (e : AnyLater w w') => deeper_any (.node a q b) r v rv w' true (by simpa using c1) (h.later e) (hr.later e) v1 v2)
  obtain ⟨fa, fq, fb⟩ := hF
  obtain ⟨k, lv, iv, qv, gv, rfl, hk, ha, hb, hq⟩ := h
  have HJ := Lib.hid (fun (w' : World) (e : AnyLater w w') => ih b r p iv rv bv fv w' _ hN rfl (hb.later e) (hr.later e) (hp.later e) fb fp fr (by omega))
  have HE := Lib.hid (fun (w' : World) (u : Value) (e : AnyLater w w') (hu : isT (Tr.join b p r) u w') => even_any a (Tr.join b p r) q lv u qv gv w' _ rfl (ha.later e) hu (hq.later e) fa fq (Tr.fair_join fb fp fr) (by rw [Tr.len_join]; omega))
  have HK := Lib.hid hk
  obtain ⟨A, cap, rfl, -⟩ := hp.1.form
  obtain ⟨A2, cap2, rfl, -⟩ := hp.2.form
  obtain ⟨A3, cap3, rfl, -⟩ := hq.1.form
  obtain ⟨A4, cap4, rfl, -⟩ := hq.2.form
  unfold nodeC at HK
  unfold pcV at HJ HE ⊢
  clear ha hb hq hr hp hk hn hn2 hN ih v1 v2 c1
  generalize p.b.length = n at *
  generalize p.fs.length = m at *
  generalize p.base = b0 at *
  generalize q.b.length = n2 at *
  generalize q.fs.length = m2 at *
  generalize q.base = b1 at *
  go_enter Tryd.func40, Tryd.ntmps40
  go_wp2_with fail
  first | refine settle_wp (fun wS => AnyLater w wS ∧ wS.heap[w.heap.size]? = some (.cells #[.slice A n cap, .slice A2 m cap2, .int .i64 b0] 71)) ?_ ?_ | refine settle_calls (fun wS => AnyLater w wS ∧ wS.heap[w.heap.size]? = some (.cells #[.slice A n cap, .slice A2 m cap2, .int .i64 b0] 71)) ?_ ?_
  · refine ⟨?_, ?_⟩
    · repeat' (first | with_reducible assumption | with_reducible exact AnyLater.refl _ | with_reducible apply AnyLater.setCell | with_reducible apply AnyLater.later | with_reducible apply AnyLater.drewN | with_reducible apply AnyLater.drew | with_reducible apply AnyLater.alloc | ((try simp only [World.size_alloc, World.size_setCell, World.size_drew]); (try dsimp only); omega))
    · ((repeat (first | with_reducible assumption | ((with_reducible apply heap_new); (try simp only [World.size_alloc, World.size_setCell, World.size_drew, World.heap_drewN]); done) | ((with_reducible apply heap_new); (try simp only [World.size_alloc, World.size_setCell, World.size_drew, World.heap_drewN]); omega) | (with_reducible refine heap_old (by (try simp only [World.size_alloc, World.size_setCell, World.size_drew, World.heap_drewN]); omega) ?_) | (with_reducible refine heap_drew ?_) | (with_reducible refine heap_far (by omega) ?_) | (with_reducible apply heap_at))); all_goals rfl)
  rintro w1 ⟨b_w1, s0_w1⟩
  have a_w1 := b_w1
  have r0_w1 := own_row s0_w1
  have f0_w1 := own_free s0_w1
  have l0_w1 := own_lt s0_w1
  have z_w1 := b_w1.below.size
  have s1_w1 := any_own a_w1 HK.out
  refine (HD.out _ (by assumption)).mono ?_
  rintro e w2 ⟨rfl, b_w2⟩
  have z_w2 := b_w2.below.size
  have a_w2 := a_w1.trans b_w2
  have s0_w2 := any_own b_w2 s0_w1
  have s1_w2 := any_own b_w2 s1_w1
  have r0_w2 := own_row s0_w2
  have f0_w2 := own_free s0_w2
  have l0_w2 := own_lt s0_w2
  have r1_w2 := own_row s1_w2
  have f1_w2 := own_free s1_w2
  have l1_w2 := own_lt s1_w2
  (try clear r0_w1); (try clear f0_w1)
  (try clear r1_w1); (try clear f1_w1)
  go_wp2_with fail
  apply Wild.wp_region_free (16) [⟨14, 25, undef, true, isT (Tr.join b p r)⟩, ⟨15, 26, undef, true, isT (Tr.even a q (Tr.join b p r))⟩] [⟨14, 25, isT (Tr.join b p r)⟩, ⟨15, 26, isT (Tr.even a q (Tr.join b p r))⟩] rfl (by kernel_rfl) (by kernel_rfl) (by kernel_rfl) (by simp) (by kernel_rfl)
  case hstab =>
    intro c hc
    simp only [List.mem_cons, List.not_mem_nil, or_false] at hc
    rcases hc with rfl | rfl
    · intro v x y hxy hv; exact isT_stays hxy hv
    · intro v x y hxy hv; exact isT_stays hxy hv
  case hfix =>
    intro c hc
    simp only [List.mem_cons, List.not_mem_nil, or_false] at hc
    rcases hc with rfl | rfl
    · exact .inl rfl
    · exact .inl rfl
  case hlex =>
    intro U hU
    have q0 := own_row (any_own hU s0_w2)
    have q1 := own_row (any_own hU s1_w2)
    simp only [List.map_cons, List.map_nil, CA.act, actFrom, actOp, List.lookup, Nat.reduceBEq, Nat.reduceLeDiff, Nat.reduceAdd, if_false, if_true]
    repeat (go_big_quiet_step (fail))
    exact wpQuiet_nil rfl
  case hstep =>
    intro j hj o ho
    have hj2 : j = 0 ∨ j = 1 := by simp at hj; omega
    rcases hj2 with rfl | rfl
    · cases ho
      refine ⟨rfl, fun g x hx hp => ?_⟩
      clear hp
      simp only [fillAll, Act.put, List.setIfInBounds_toArray, List.set_cons_zero, List.set_cons_succ]
      refine chain_go ?_ (Wild.free_tells (HJ.out x (a_w2.trans hx)))
      simp [go_sem, execOp]
    · cases ho
      refine ⟨rfl, fun g x hx hp => ?_⟩
      have p25 : (isT (Tr.join b p r)) (g 14) x := hp _ (List.mem_of_getElem? (i := 0) rfl) (List.contains_iff_mem.1 (by kernel_rfl))
      clear hp
      simp only [fillAll, Act.put, List.setIfInBounds_toArray, List.set_cons_zero, List.set_cons_succ]
      refine chain_go ?_ (Wild.free_tells (HE.out _ _ (a_w2.trans hx) p25))
      simp [go_sem, execOp]
  case htail =>
    intro g u hst hne
    have b_w3 : AnyLater w2 (later u) := ⟨u, rfl⟩
    generalize later u = w3 at *
    clear u hne
    obtain ⟨p25_w3, -⟩ := hst _ (List.mem_of_getElem? (i := 0) rfl)
    (try dsimp only at p25_w3)
    obtain ⟨p26_w3, -⟩ := hst _ (List.mem_of_getElem? (i := 1) rfl)
    (try dsimp only at p26_w3)
    clear hst
    simp only [fillAll, Act.put, List.setIfInBounds_toArray, List.set_cons_zero, List.set_cons_succ, List.drop_succ_cons, List.drop_zero, List.drop_nil]
    generalize g 14 = v25 at *
    generalize g 15 = v26 at *
    have z_w3 := b_w3.below.size
    have a_w3 := a_w2.trans b_w3
    have s0_w3 := any_own b_w3 s0_w2
    have s1_w3 := any_own b_w3 s1_w2
    have r0_w3 := own_row s0_w3
    have f0_w3 := own_free s0_w3
    have l0_w3 := own_lt s0_w3
    have r1_w3 := own_row s1_w3
    have f1_w3 := own_free s1_w3
    have l1_w3 := own_lt s1_w3
    (try clear r0_w2); (try clear f0_w2)
    (try clear r1_w2); (try clear f1_w2)
    go_wp2_with fail
    go_ret
    exact ⟨_, rfl, a_w3, p26_w3⟩
set_option maxRecDepth 100000 in
set_option maxHeartbeats 1600000 in
theorem join_right (N : Nat) (ih : JoinsTo N) (l a b : Tr) (q p : Pc) (v lv bv fv : Value) (w : World) (hN : l.np + a.np ≤ N) (h : IsT w (.node a q b) v) (hl : IsT w l lv) (hp : RIsP w bv fv p) (hF : (Tr.node a q b).Fair) (fp : p.Fair) (fl : l.Fair) (hn : l.len + p.b.length + (Tr.node a q b).len ≤ 90000) (c1 : ¬ (Tr.node a q b).lev + 2 < l.lev) (c2 : l.lev + 2 < (Tr.node a q b).lev) :
    Calls Tryd.prog 40 #[lv, pcV bv fv p, v] w (Ans (isT (Tr.even (Tr.join l p a) q b)) w) := by
  have v1 := Tr.lev_small hF (by omega)
  have v2 := Tr.lev_small fl (by omega)
  have hn2 : l.len + p.b.length + (a.len + q.b.length + b.len) ≤ 90000 := hn
  have HD := Lib.hid (fun (w' : World) (e : AnyLater w w') => deeper_any l (.node a q b) lv v w' false (by simpa using c1) (hl.later e) (h.later e) v2 v1)
  have HD2 := Lib.hid (fun (w' : World) (e : AnyLater w w') => deeper_any (.node a q b) l v lv w' true (by simpa using c2) (h.later e) (hl.later e) v1 v2)
  obtain ⟨fa, fq, fb⟩ := hF
  obtain ⟨k, iv, rv, qv, gv, rfl, hk, ha, hb, hq⟩ := h
  have HJ := Lib.hid (fun (w' : World) (e : AnyLater w w') => ih l a p lv iv bv fv w' _ hN rfl (hl.later e) (ha.later e) (hp.later e) fl fp fa (by omega))
  have HE := Lib.hid (fun (w' : World) (u : Value) (e : AnyLater w w') (hu : isT (Tr.join l p a) u w') => even_any (Tr.join l p a) b q u rv qv gv w' _ rfl hu (hb.later e) (hq.later e) (Tr.fair_join fl fp fa) fq fb (by rw [Tr.len_join]; omega))
  have HK := Lib.hid hk
  obtain ⟨A, cap, rfl, -⟩ := hp.1.form
  obtain ⟨A2, cap2, rfl, -⟩ := hp.2.form
  obtain ⟨A3, cap3, rfl, -⟩ := hq.1.form
  obtain ⟨A4, cap4, rfl, -⟩ := hq.2.form
  unfold nodeC at HK
  unfold pcV at HJ HE ⊢
  clear ha hb hq hl hp hk hn hn2 hN ih v1 v2 c1 c2
  generalize p.b.length = n at *
  generalize p.fs.length = m at *
  generalize p.base = b0 at *
  generalize q.b.length = n2 at *
  generalize q.fs.length = m2 at *
  generalize q.base = b1 at *
  go_enter Tryd.func40, Tryd.ntmps40
  go_wp2_with fail
  first | refine settle_wp (fun wS => AnyLater w wS ∧ wS.heap[w.heap.size]? = some (.cells #[.slice A n cap, .slice A2 m cap2, .int .i64 b0] 71)) ?_ ?_ | refine settle_calls (fun wS => AnyLater w wS ∧ wS.heap[w.heap.size]? = some (.cells #[.slice A n cap, .slice A2 m cap2, .int .i64 b0] 71)) ?_ ?_
  · refine ⟨?_, ?_⟩
    · repeat' (first | with_reducible assumption | with_reducible exact AnyLater.refl _ | with_reducible apply AnyLater.setCell | with_reducible apply AnyLater.later | with_reducible apply AnyLater.drewN | with_reducible apply AnyLater.drew | with_reducible apply AnyLater.alloc | ((try simp only [World.size_alloc, World.size_setCell, World.size_drew]); (try dsimp only); omega))
    · ((repeat (first | with_reducible assumption | ((with_reducible apply heap_new); (try simp only [World.size_alloc, World.size_setCell, World.size_drew, World.heap_drewN]); done) | ((with_reducible apply heap_new); (try simp only [World.size_alloc, World.size_setCell, World.size_drew, World.heap_drewN]); omega) | (with_reducible refine heap_old (by (try simp only [World.size_alloc, World.size_setCell, World.size_drew, World.heap_drewN]); omega) ?_) | (with_reducible refine heap_drew ?_) | (with_reducible refine heap_far (by omega) ?_) | (with_reducible apply heap_at))); all_goals rfl)
  rintro w1 ⟨b_w1, s0_w1⟩
  have a_w1 := b_w1
  have r0_w1 := own_row s0_w1
  have f0_w1 := own_free s0_w1
  have l0_w1 := own_lt s0_w1
  have z_w1 := b_w1.below.size
  have s1_w1 := any_own a_w1 HK.out
  refine (HD.out _ (by assumption)).mono ?_
  rintro e w2 ⟨rfl, b_w2⟩
  have z_w2 := b_w2.below.size
  have a_w2 := a_w1.trans b_w2
  have s0_w2 := any_own b_w2 s0_w1
  have s1_w2 := any_own b_w2 s1_w1
  have r0_w2 := own_row s0_w2
  have f0_w2 := own_free s0_w2
  have l0_w2 := own_lt s0_w2
  have r1_w2 := own_row s1_w2
  have f1_w2 := own_free s1_w2
  have l1_w2 := own_lt s1_w2
  (try clear r0_w1); (try clear f0_w1)
  (try clear r1_w1); (try clear f1_w1)
  go_wp2_with fail
  refine (HD2.out _ (by assumption)).mono ?_
  rintro e w3 ⟨rfl, b_w3⟩
  have z_w3 := b_w3.below.size
  have a_w3 := a_w2.trans b_w3
  have s0_w3 := any_own b_w3 s0_w2
  have s1_w3 := any_own b_w3 s1_w2
  have r0_w3 := own_row s0_w3
  have f0_w3 := own_free s0_w3
  have l0_w3 := own_lt s0_w3
  have r1_w3 := own_row s1_w3
  have f1_w3 := own_free s1_w3
  have l1_w3 := own_lt s1_w3
  (try clear r0_w2); (try clear f0_w2)
  (try clear r1_w2); (try clear f1_w2)
  go_wp2_with fail
  apply Wild.wp_region_free (16) [⟨6, 37, undef, true, isT (Tr.join l p a)⟩, ⟨15, 46, undef, true, isT (Tr.even (Tr.join l p a) q b)⟩] [⟨6, 37, isT (Tr.join l p a)⟩, ⟨15, 46, isT (Tr.even (Tr.join l p a) q b)⟩] rfl (by kernel_rfl) (by kernel_rfl) (by kernel_rfl) (by simp) (by kernel_rfl)
  case hstab =>
    intro c hc
    simp only [List.mem_cons, List.not_mem_nil, or_false] at hc
    rcases hc with rfl | rfl
    · intro v x y hxy hv; exact isT_stays hxy hv
    · intro v x y hxy hv; exact isT_stays hxy hv
  case hfix =>
    intro c hc
    simp only [List.mem_cons, List.not_mem_nil, or_false] at hc
    rcases hc with rfl | rfl
    · exact .inl rfl
    · exact .inl rfl
  case hlex =>
    intro U hU
    have q0 := own_row (any_own hU s0_w3)
    have q1 := own_row (any_own hU s1_w3)
    simp only [List.map_cons, List.map_nil, CA.act, actFrom, actOp, List.lookup, Nat.reduceBEq, Nat.reduceLeDiff, Nat.reduceAdd, if_false, if_true]
    repeat (go_big_quiet_step (fail))
    exact wpQuiet_nil rfl
  case hstep =>
    intro j hj o ho
    have hj2 : j = 0 ∨ j = 1 := by simp at hj; omega
    rcases hj2 with rfl | rfl
    · cases ho
      refine ⟨rfl, fun g x hx hp => ?_⟩
      clear hp
      simp only [fillAll, Act.put, List.setIfInBounds_toArray, List.set_cons_zero, List.set_cons_succ]
      refine chain_go ?_ (Wild.free_tells (HJ.out x (a_w3.trans hx)))
      simp [go_sem, execOp]
    · cases ho
      refine ⟨rfl, fun g x hx hp => ?_⟩
      have p37 : (isT (Tr.join l p a)) (g 6) x := hp _ (List.mem_of_getElem? (i := 0) rfl) (List.contains_iff_mem.1 (by kernel_rfl))
      clear hp
      simp only [fillAll, Act.put, List.setIfInBounds_toArray, List.set_cons_zero, List.set_cons_succ]
      refine chain_go ?_ (Wild.free_tells (HE.out _ _ (a_w3.trans hx) p37))
      simp [go_sem, execOp]
  case htail =>
    intro g u hst hne
    have b_w4 : AnyLater w3 (later u) := ⟨u, rfl⟩
    generalize later u = w4 at *
    clear u hne
    obtain ⟨p37_w4, -⟩ := hst _ (List.mem_of_getElem? (i := 0) rfl)
    (try dsimp only at p37_w4)
    obtain ⟨p46_w4, -⟩ := hst _ (List.mem_of_getElem? (i := 1) rfl)
    (try dsimp only at p46_w4)
    clear hst
    simp only [fillAll, Act.put, List.setIfInBounds_toArray, List.set_cons_zero, List.set_cons_succ, List.drop_succ_cons, List.drop_zero, List.drop_nil]
    generalize g 6 = v37 at *
    generalize g 15 = v46 at *
    have z_w4 := b_w4.below.size
    have a_w4 := a_w3.trans b_w4
    have s0_w4 := any_own b_w4 s0_w3
    have s1_w4 := any_own b_w4 s1_w3
    have r0_w4 := own_row s0_w4
    have f0_w4 := own_free s0_w4
    have l0_w4 := own_lt s0_w4
    have r1_w4 := own_row s1_w4
    have f1_w4 := own_free s1_w4
    have l1_w4 := own_lt s1_w4
    (try clear r0_w3); (try clear f0_w3)
    (try clear r1_w3); (try clear f1_w3)
    go_wp2_with fail
    go_ret
    exact ⟨_, rfl, a_w4, p46_w4⟩
theorem joins (n : Nat) : JoinsTo n := by
  induction n with
  | zero =>
    intro l r p lv rv bv fv w t hN ht hl hr hp fl fp fr hn
    subst ht
    have h3 := Tr.lev_le l
    have h4 := Tr.lev_le r
    rw [Tr.join_tie _ _ _ (by omega) (by omega)]
    exact join_tied l r p lv rv bv fv w hl hr hp fl fr hn (by omega) (by omega)
  | succ n ih =>
    intro l r p lv rv bv fv w t hN ht hl hr hp fl fp fr hn
    subst ht
    by_cases c1 : r.lev + 2 < l.lev
    · cases l with
      | nil => simp [Tr.lev] at c1
      | node a q b =>
        rw [Tr.join_left _ _ _ _ _ c1]
        exact join_left n ih a b r q p lv rv bv fv w (by simp only [Tr.np] at hN; omega) hl hr hp fl fp fr hn c1
    · by_cases c2 : l.lev + 2 < r.lev
      · cases r with
        | nil => simp [Tr.lev] at c2
        | node a q b =>
          rw [Tr.join_right _ _ _ _ _ c1 c2]
          exact join_right n ih l a b q p rv lv bv fv w (by simp only [Tr.np] at hN; omega) hr hl hp fr fp fl hn c1 c2
      · rw [Tr.join_tie _ _ _ c1 c2]
        exact join_tied l r p lv rv bv fv w hl hr hp fl fr hn c1 c2
/-- a piece between two parts, however deep each is -/
theorem rjoin_any (l r : Tr) (p : Pc) (lv rv bv fv : Value) (w : World) (t : Tr) (ht : Tr.join l p r = t) (hl : IsT w l lv) (hr : IsT w r rv) (hp : RIsP w bv fv p) (fl : l.Fair) (fp : p.Fair) (fr : r.Fair) (hn : l.len + p.b.length + r.len ≤ 90000) :
    Calls Tryd.prog 40 #[lv, pcV bv fv p, rv] w (Ans (isT t) w) := joins _ l r p lv rv bv fv w t (Nat.le_refl _) ht hl hr hp fl fp fr hn
end Go.Proofs.YtkobnijjahpifaaDoor
namespace Go.Proofs.YtkobnijjahpifaaDoor
set_option linter.unusedSimpArgs false
set_option linter.unusedVariables false
set_option linter.unusedSectionVars false
open Go.RowKit

theorem below_eq {x : Int} {l : List Int} {k : Nat} (hk : k ≤ l.length) (h1 : ∀ (t : Nat) (h : t < l.length), t < k → l[t] < x) (h2 : ∀ (h : k < l.length), x ≤ l[k]) : below x l = k := by
  have e : l = l.take k ++ l.drop k := (List.take_append_drop k l).symm
  unfold below
  rw [e, List.takeWhile_append_of_pos, List.length_append, List.length_take, Nat.min_eq_left hk]
  · rcases Nat.lt_or_ge k l.length with h | h
    · rw [List.drop_eq_getElem_cons h, List.takeWhile_cons_of_neg (by have := h2 h; simp; omega)]; simp
    · rw [List.drop_of_length_le h]; simp
  · intro y hy
    obtain ⟨t, ht, rfl⟩ := List.getElem_of_mem hy
    rw [List.length_take] at ht
    rw [List.getElem_take]
    have := h1 t (by omega) (by omega)
    simpa using this
theorem cmpNaN (x : Int) (w : World) : Calls Tryd.prog 88 #[.int .i32 x] w fun e w' => e = .returned (.bool false) ∧ w = w' := by
  go_enter Tryd.func88, Tryd.ntmps88
  go_wp2
  go_ret
  exact ⟨ret_bool (by simp), rfl⟩
theorem sliNaN (x : Int) (w : World) : Calls Tryd.prog 81 #[.int .i32 x] w fun e w' => e = .returned (.bool false) ∧ w = w' := by
  go_enter Tryd.func81, Tryd.ntmps81
  go_wp2
  go_ret
  exact ⟨ret_bool (by simp), rfl⟩
theorem rless_any (x y : Int) (c : Bool) (hc : decide (x < y) = c) (w : World) : Calls Tryd.prog 80 #[.int .i32 x, .int .i32 y] w fun e w' => e = .returned (.bool c) ∧ w = w' := by
  have HN := Lib.hid cmpNaN
  have HC := Lib.hid hc
  clear hc
  go_enter Tryd.func80, Tryd.ntmps80
  go_wp2_with (go_at_call 88; refine (HN.out _ _).mono ?_; rintro e w' ⟨rfl, rfl⟩)
  go_ret
  exact ⟨ret_bool (by rw [← HC.out]), rfl⟩
set_option maxRecDepth 100000 in
set_option maxHeartbeats 1600000 in
theorem search_some (b off n cap : Nat) (g : Nat → Int) (x : Int) (w : World) (hb : b < w.heap.size) (hcl : ∀ t, t < n → w.cell? ⟨b, off + t, none⟩ = some (.int .i32 (g t))) (hs : ∀ t u, t < u → u < n → g t < g u) (hn : n ≤ 90000) :
    Calls Tryd.prog 74 #[.slice (some ⟨b, off, none⟩) n cap, .int .i32 x] w fun e w' => (∃ (k : Nat) (c : Bool), e = .returned (.tuple #[.int .i64 (k : Int), .bool c]) ∧ k ≤ n ∧ (∀ t, t < k → g t < x) ∧ (k < n → x ≤ g k)) ∧ AnyLater w w' := by
  have HN := Lib.hid sliNaN
  have HLs := Lib.hid rless_any
  have HS := Lib.hid hs
  have HC := Lib.hid hcl
  clear hs hcl
  go_enter Tryd.func74, Tryd.ntmps74
  go_wp2_with fail
  go_loopg [7, 8] n (fun kk iv jv wr => AnyLater w wr ∧ ∃ i j : Nat, kk = j - i ∧ i ≤ j ∧ j ≤ n ∧ iv = .int .i64 (i : Int) ∧ jv = .int .i64 (j : Int) ∧ (∀ t, t < i → g t < x) ∧ (∀ t, t < n → j ≤ t → x ≤ g t))
  case atStart => exact ⟨AnyLater.refl _, 0, n, by omega, by omega, by omega, rfl, rfl, fun t h => by omega, fun t h h' => by omega⟩
  case round =>
    obtain ⟨a_wr, i, j, hk, hij, hj, rfl, rfl, q1, q2⟩ := hrel
    have HA := Lib.hid a_wr
    have HQ := Lib.hid (And.intro q1 q2)
    clear q1 q2 a_wr
    by_cases hlt : i < j
    · have d0 : (i : Int) < (j : Int) := by omega
      obtain ⟨h, hh⟩ : ∃ h, (i + j) / 2 = h := ⟨_, rfl⟩
      have hi : i ≤ h ∧ h < j := by omega
      have c0 : wr.cell? ⟨b, off + h, none⟩ = some (.int .i32 (g h)) := (HA.out.below.cell hb).trans (HC.out h (by omega))
      by_cases hc : g h < x
      · have HL := Lib.hid (HLs.out (g h) x true (by simpa using hc))
        go_wp2_with fail
        refine (HL.out wr).mono ?_
        rintro e w' ⟨rfl, rfl⟩
        go_wp2_with fail
        go_roundg (j - (h + 1))
        case measure => omega
        case rel => exact ⟨HA.out, h + 1, j, rfl, by omega, hj, by (congr 1; omega), rfl, fun t ht => by
          rcases Nat.lt_or_ge t h with h1 | h1
          · have := HS.out t h h1 (by omega); omega
          · obtain rfl : t = h := by omega
            exact hc, HQ.out.2⟩
      · have HL := Lib.hid (HLs.out (g h) x false (by simpa using hc))
        go_wp2_with fail
        refine (HL.out wr).mono ?_
        rintro e w' ⟨rfl, rfl⟩
        go_wp2_with fail
        go_roundg (h - i)
        case measure => omega
        case rel => exact ⟨HA.out, i, h, rfl, by omega, by omega, rfl, by (congr 1; omega), HQ.out.1, fun t ht h1 => by
          rcases Nat.lt_or_ge h t with h2 | h2
          · have := HS.out h t h2 ht; omega
          · obtain rfl : t = h := by omega
            omega⟩
    · obtain rfl : i = j := by omega
      have hdone : Hid (∀ c : Bool, (∃ (k : Nat) (c' : Bool), Ending.returned (.tuple #[.int .i64 (i : Int), .bool c]) = .returned (.tuple #[.int .i64 (k : Int), .bool c']) ∧ k ≤ n ∧ (∀ t, t < k → g t < x) ∧ (k < n → x ≤ g k)) ∧ AnyLater w wr) := Lib.hid (fun c => ⟨⟨i, c, rfl, hj, HQ.out.1, fun h => HQ.out.2 i h (Nat.le_refl _)⟩, HA.out⟩)
      by_cases hin : i < n
      · have d0 : (i : Int) < (n : Int) := by omega
        have c0 : wr.cell? ⟨b, off + i, none⟩ = some (.int .i32 (g i)) := (HA.out.below.cell hb).trans (HC.out i hin)
        clear hlt hk
        by_cases he : g i = x
        · go_wp2_with fail
          refine bodyPost_ret (v := .tuple #[.int .i64 (i : Int), .bool true]) (by simp [results, Tryd.results74, go_sem]) rfl ?_
          exact hdone.out true
        · have he2 : (g i == x) = false := by simpa using he
          clear he
          go_wp2_with (go_at_call 81; refine (HN.out _ _).mono ?_; rintro e w' ⟨rfl, rfl⟩)
          refine bodyPost_ret (v := .tuple #[.int .i64 (i : Int), .bool false]) (by simp [results, Tryd.results74, go_sem]) rfl ?_
          exact hdone.out false
      · have d0 : decide ((i : Int) < (n : Int)) = false := decide_eq_false (by omega)
        clear hlt hk
        go_wp2_with fail
        refine bodyPost_ret (v := .tuple #[.int .i64 (i : Int), .bool false]) (by simp [results, Tryd.results74, go_sem]) rfl ?_
        exact hdone.out false
set_option maxRecDepth 100000 in
theorem search_none (A : Option Addr) (cap : Nat) (x : Int) (w : World) :
    Calls Tryd.prog 74 #[.slice A 0 cap, .int .i32 x] w fun e w' => e = .returned (.tuple #[.int .i64 0, .bool false]) ∧ AnyLater w w' := by
  go_enter Tryd.func74, Tryd.ntmps74
  go_wp2_with fail
  refine wp_loop_rounds 1 ?_
  rw [rounds_succ]
  go_wp2_with fail
  refine bodyPost_ret (v := .tuple #[.int .i64 0, .bool false]) (by simp [results, Tryd.results74, go_sem]) rfl ⟨rfl, ?_⟩
  repeat' (first | with_reducible assumption | with_reducible exact AnyLater.refl _ | with_reducible apply AnyLater.setCell | with_reducible apply AnyLater.later | with_reducible apply AnyLater.drewN | with_reducible apply AnyLater.drew | with_reducible apply AnyLater.alloc | ((try simp only [World.size_alloc, World.size_setCell, World.size_drew]); (try dsimp only); omega))
/-- BinarySearch in a rising list -/
theorem search_any (v : Value) (l : List Int) (x : Int) (w : World) (k : Nat) (hk : below x l = k) (hv : RN .i32 w v l) (hs : l.Pairwise (· < ·)) (hn : l.length ≤ 90000) :
    Calls Tryd.prog 74 #[v, .int .i32 x] w fun e w' => (∃ c, e = .returned (.tuple #[.int .i64 (k : Int), .bool c])) ∧ AnyLater w w' := by
  subst hk
  obtain ⟨A, cap, rfl, h2, h3⟩ := hv
  rcases Nat.eq_zero_or_pos l.length with h0 | h0
  · obtain rfl := List.eq_nil_of_length_eq_zero h0
    refine (search_none A cap x w).mono ?_
    rintro e w' ⟨rfl, b⟩
    exact ⟨⟨false, rfl⟩, b⟩
  · obtain ⟨b, off, rfl, hb, hc⟩ := h3 h0
    have hs2 := List.pairwise_iff_getElem.1 hs
    have hg : ∀ t (h : t < l.length), l.getD t 0 = l[t] := fun t h => by simp [List.getD_eq_getElem?_getD, h]
    refine (search_some b off l.length cap (fun t => l.getD t 0) x w hb (fun t ht => by rw [hc t ht, hg t ht]) (fun t u h1 h2 => by rw [hg t (by omega), hg u h2]; exact hs2 t u _ _ h1) hn).mono ?_
    rintro e w' ⟨⟨k, c, rfl, q1, q2, q3⟩, bb⟩
    refine ⟨⟨c, ?_⟩, bb⟩
    rw [below_eq q1 (fun t h ht => by have := q2 t ht; rwa [hg t h] at this) (fun h => by have := q3 h; rwa [hg k h] at this)]

/-! ### in a piece -/
theorem Pc.fs_len (p : Pc) : p.fs.length ≤ p.b.length := feN_le p.b p.base
set_option maxRecDepth 100000 in
theorem ahead_any (p : Pc) (bv fv : Value) (w : World) (x : Int) (i c : Nat) (hx : x = (i : Int)) (hc : (feN p.base (p.b.take i)).length = c) (hp : RIsP w bv fv p) (fp : p.Fair) (hi : i ≤ p.b.length) :
    Calls Tryd.prog 67 #[pcV bv fv p, .int .i64 x] w fun e w' => e = .returned (.int .i64 (c : Int)) ∧ AnyLater w w' := by
  subst hx
  have hB : below (p.base + (i : Int)) p.fs = c := by rw [← hc]; exact feN_below p.b p.base i hi
  obtain ⟨f1, f2, f3, -⟩ := fp
  have hl := p.fs_len
  have HS := Lib.hid (fun (w' : World) (b : AnyLater w w') => search_any fv p.fs (p.base + (i : Int)) w' c hB (hp.2.later b).rn (feN_sorted p.b p.base) (by omega))
  obtain ⟨A, cap, rfl, -⟩ := hp.1.form
  obtain ⟨A2, cap2, rfl, -⟩ := hp.2.form
  unfold pcV
  have g1 : 0 ≤ p.base + (i : Int) := by omega
  have g2 : p.base + (i : Int) ≤ 90000 := by omega
  clear hp hc hB hl
  generalize p.b.length = n at *
  generalize p.fs.length = m at *
  generalize p.base = b0 at *
  go_enter Tryd.func67, Tryd.ntmps67
  go_wp2_with fail
  refine (HS.out _ (by repeat' (first | with_reducible assumption | with_reducible exact AnyLater.refl _ | with_reducible apply AnyLater.setCell | with_reducible apply AnyLater.later | with_reducible apply AnyLater.drewN | with_reducible apply AnyLater.drew | with_reducible apply AnyLater.alloc | ((try simp only [World.size_alloc, World.size_setCell, World.size_drew]); (try dsimp only); omega)))).mono ?_
  rintro e w2 ⟨⟨c2, rfl⟩, b2⟩
  have HB : Hid (AnyLater w w2) := Lib.hid (AnyLater.trans (by repeat' (first | with_reducible assumption | with_reducible exact AnyLater.refl _ | with_reducible apply AnyLater.setCell | with_reducible apply AnyLater.later | with_reducible apply AnyLater.drewN | with_reducible apply AnyLater.drew | with_reducible apply AnyLater.alloc | ((try simp only [World.size_alloc, World.size_setCell, World.size_drew]); (try dsimp only); omega))) b2)
  clear b2
  go_wp2_with fail
  go_ret
  exact ⟨rfl, HB.out⟩
def isPc (q : Pc) (v : Value) (w : World) : Prop := ∃ bv fv, v = pcV bv fv q ∧ RIsP w bv fv q
theorem isPc_stays {q : Pc} {v : Value} {w w' : World} (h : AnyLater w w') (s : isPc q v w) : isPc q v w' := by
  obtain ⟨bv, fv, e, hq⟩ := s
  exact ⟨bv, fv, e, hq.later h⟩
theorem RT.cut {k : IntKind} {t : TypeId} {w : World} {A : Option Addr} {cap : Nat} {l : List Int} (h : RT k t w (.slice A l.length cap) l) (lo hi : Nat) (h1 : lo ≤ hi) (h2 : hi ≤ l.length) :
    RT k t w (.slice (if hi = lo then A else A.map (fun x => x.add lo)) (hi - lo) (hi - lo)) ((l.drop lo).take (hi - lo)) := by
  obtain ⟨A', cap', e, h3, h4⟩ := h
  cases e
  have hl : ((l.drop lo).take (hi - lo)).length = hi - lo := by rw [List.length_take, List.length_drop]; omega
  refine ⟨_, _, by rw [hl], by rw [hl]; exact Nat.le_refl _, fun h0 => ?_⟩
  rw [hl] at h0
  obtain ⟨b, off, cs, m, rfl, hb, hc⟩ := h4 (by omega)
  rw [if_neg (by omega)]
  refine ⟨b, off + lo, cs, m, by rw [Option.map_some, addr_add], hb, fun j hj => ?_⟩
  rw [hl] at hj
  rw [Nat.add_assoc, hc (lo + j) (by omega), List.getElem_take, List.getElem_drop]
set_option maxRecDepth 100000 in
theorem cut_bytes {w : World} {v : Value} {l : List Int} (h : RT .u8 5 w v l) (lo hi : Nat) (h1 : lo ≤ hi) (h2 : hi ≤ l.length) : ∃ A cap, RT .u8 5 w (.slice A (hi - lo) cap) ((l.drop lo).take (hi - lo)) ∧
    ∀ w', (Instr.sliceAt 22 v (some (.int .i64 (lo : Int))) (some (.int .i64 (hi : Int))) (some (.int .i64 (hi : Int)))).run Tryd.prog w' = .ok (.slice A (hi - lo) cap) w' := by
  obtain ⟨A, cap, rfl, h3⟩ := h.form
  refine ⟨_, _, h.cut lo hi h1 h2, fun w' => ?_⟩
  rw [run_sliceAt_slice w' _ _ _ _ _ Tryd.underlying22, run_slice_lhm w' _ A l.length cap Tryd.underlying22 .i64 .i64 .i64 (lo : Int) (hi : Int) (hi : Int) (by omega) (by omega) (by omega) (by omega)]
  have hz : ∀ w, (Go.sizeOf (Tryd.prog.elem 22)).run Tryd.prog w = .ok 1 w := fun w => by simp [go_sem]
  rw [hz]
  simp [Result.andThen, sliced]
set_option maxRecDepth 100000 in
theorem cut_feeds {w : World} {v : Value} {l : List Int} (h : RT .i32 21 w v l) (lo hi : Nat) (h1 : lo ≤ hi) (h2 : hi ≤ l.length) : ∃ A cap, RT .i32 21 w (.slice A (hi - lo) cap) ((l.drop lo).take (hi - lo)) ∧
    ∀ w', (Instr.sliceAt 69 v (some (.int .i64 (lo : Int))) (some (.int .i64 (hi : Int))) (some (.int .i64 (hi : Int)))).run Tryd.prog w' = .ok (.slice A (hi - lo) cap) w' := by
  obtain ⟨A, cap, rfl, h3⟩ := h.form
  refine ⟨_, _, h.cut lo hi h1 h2, fun w' => ?_⟩
  rw [run_sliceAt_slice w' _ _ _ _ _ Tryd.underlying69, run_slice_lhm w' _ A l.length cap Tryd.underlying69 .i64 .i64 .i64 (lo : Int) (hi : Int) (hi : Int) (by omega) (by omega) (by omega) (by omega)]
  have hz : ∀ w, (Go.sizeOf (Tryd.prog.elem 69)).run Tryd.prog w = .ok 1 w := fun w => by simp [go_sem]
  rw [hz]
  simp [Result.andThen, sliced]
theorem cut_fs (p : Pc) (f t : Nat) (h1 : f ≤ t) (h2 : t ≤ p.b.length) : (p.fs.drop (feN p.base (p.b.take f)).length).take ((feN p.base (p.b.take t)).length - (feN p.base (p.b.take f)).length) = (p.cut f t).fs := by
  unfold Pc.fs Pc.cut
  rw [feN_drop p.b p.base f (by omega)]
  have e : p.b.take t = p.b.take f ++ (p.b.drop f).take (t - f) := by
    rw [← List.take_append_drop f (p.b.take t), List.take_take, Nat.min_eq_left h1, List.drop_take]
  have hl : (p.b.take f).length = f := by rw [List.length_take]; omega
  rw [e, feN_append, List.length_append, Nat.add_sub_cancel_left, hl, feN_take]
def AheadIs (p : Pc) (i c : Nat) : Prop := (feN p.base (p.b.take i)).length = c ∧ i ≤ p.b.length
set_option maxRecDepth 100000 in
set_option maxHeartbeats 1600000 in
theorem cut_any (p : Pc) (bv fv : Value) (w : World) (x y : Int) (f t : Nat) (hx : x = (f : Int)) (hy : y = (t : Int)) (h1 : f ≤ t) (h2 : t ≤ p.b.length) (hp : RIsP w bv fv p) (fp : p.Fair) :
    Calls Tryd.prog 53 #[pcV bv fv p, .int .i64 x, .int .i64 y] w (Ans (isPc (p.cut f t)) w) := by
  subst hx
  subst hy
  obtain ⟨i, hi⟩ : ∃ i, (feN p.base (p.b.take f)).length = i := ⟨_, rfl⟩
  obtain ⟨j, hj⟩ : ∃ i, (feN p.base (p.b.take t)).length = i := ⟨_, rfl⟩
  have g1 : AheadIs p f i := ⟨hi, by omega⟩
  have g2 : AheadIs p t j := ⟨hj, h2⟩
  have hcf := cut_fs p f t h1 h2
  rw [hi, hj] at hcf
  have hij : i ≤ j ∧ j ≤ p.fs.length := by
    have e : p.b.take t = p.b.take f ++ (p.b.drop f).take (t - f) := by
      rw [← List.take_append_drop f (p.b.take t), List.take_take, Nat.min_eq_left h1, List.drop_take]
    have e1 := hj
    rw [e, feN_append, List.length_append, hi] at e1
    have e2 := congrArg List.length (feN_split p.b p.base t)
    rw [List.length_append, hj] at e2
    unfold Pc.fs
    omega
  have HAh : Hid (∀ (w' : World) (i c : Nat), AnyLater w w' → AheadIs p i c → Calls Tryd.prog 67 #[pcV bv fv p, .int .i64 (i : Int)] w' fun e w'' => e = .returned (.int .i64 (c : Int)) ∧ AnyLater w' w'') :=
    Lib.hid (fun w' i c b h => ahead_any p bv fv w' _ i c rfl h.1 (hp.later b) fp h.2)
  obtain ⟨A3, cap3, m1, m2⟩ := cut_bytes hp.1 f t h1 h2
  obtain ⟨A4, cap4, m3, m4⟩ := cut_feeds hp.2 i j hij.1 hij.2
  rw [hcf] at m3
  have HM : Hid (∀ w', AnyLater w w' → isPc (p.cut f t) (pcV (.slice A3 (t - f) cap3) (.slice A4 (j - i) cap4) (p.cut f t)) w') := Lib.hid (fun w' b => ⟨_, _, rfl, m1.later b, m3.later b⟩)
  obtain ⟨A, cap, rfl, -⟩ := hp.1.form
  obtain ⟨A2, cap2, rfl, -⟩ := hp.2.form
  obtain ⟨f1, f2, f3, -⟩ := fp
  have hbase : (p.cut f t).base = p.base + (f : Int) := rfl
  unfold pcV at HM HAh ⊢
  rw [hbase] at HM
  clear hi hj hcf hbase m1 m3 hp
  generalize AheadIs p = G at *
  generalize p.b.length = n at *
  generalize p.fs.length = m at *
  generalize p.base = b0 at *
  go_enter Tryd.func53, Tryd.ntmps53
  go_wp2_with fail
  first | refine settle_wp (fun wS => AnyLater w wS ∧ wS.heap[w.heap.size]? = some (.cells #[.slice A n cap, .slice A2 m cap2, .int .i64 b0] 71) ∧ wS.heap[w.heap.size + 1]? = some (.cells #[.slice none 0 0, .slice none 0 0, .int .i64 0] 71)) ?_ ?_ | refine settle_calls (fun wS => AnyLater w wS ∧ wS.heap[w.heap.size]? = some (.cells #[.slice A n cap, .slice A2 m cap2, .int .i64 b0] 71) ∧ wS.heap[w.heap.size + 1]? = some (.cells #[.slice none 0 0, .slice none 0 0, .int .i64 0] 71)) ?_ ?_
  · refine ⟨?_, ?_, ?_⟩
    · repeat' (first | with_reducible assumption | with_reducible exact AnyLater.refl _ | with_reducible apply AnyLater.setCell | with_reducible apply AnyLater.later | with_reducible apply AnyLater.drewN | with_reducible apply AnyLater.drew | with_reducible apply AnyLater.alloc | ((try simp only [World.size_alloc, World.size_setCell, World.size_drew]); (try dsimp only); omega))
    · ((repeat (first | with_reducible assumption | ((with_reducible apply heap_new); (try simp only [World.size_alloc, World.size_setCell, World.size_drew, World.heap_drewN]); done) | ((with_reducible apply heap_new); (try simp only [World.size_alloc, World.size_setCell, World.size_drew, World.heap_drewN]); omega) | (with_reducible refine heap_old (by (try simp only [World.size_alloc, World.size_setCell, World.size_drew, World.heap_drewN]); omega) ?_) | (with_reducible refine heap_drew ?_) | (with_reducible refine heap_far (by omega) ?_) | (with_reducible apply heap_at))); all_goals rfl)
    · ((repeat (first | with_reducible assumption | ((with_reducible apply heap_new); (try simp only [World.size_alloc, World.size_setCell, World.size_drew, World.heap_drewN]); done) | ((with_reducible apply heap_new); (try simp only [World.size_alloc, World.size_setCell, World.size_drew, World.heap_drewN]); omega) | (with_reducible refine heap_old (by (try simp only [World.size_alloc, World.size_setCell, World.size_drew, World.heap_drewN]); omega) ?_) | (with_reducible refine heap_drew ?_) | (with_reducible refine heap_far (by omega) ?_) | (with_reducible apply heap_at))); all_goals rfl)
  rintro w1 ⟨b_w1, s0_w1, s1_w1⟩
  have a_w1 := b_w1
  have r0_w1 := own_row s0_w1
  have f0_w1 := own_free s0_w1
  have l0_w1 := own_lt s0_w1
  have r1_w1 := own_row s1_w1
  have f1_w1 := own_free s1_w1
  have l1_w1 := own_lt s1_w1
  have z_w1 := b_w1.below.size
  apply wp_region_mem (6) [] (by kernel_rfl) (by kernel_rfl) (by simp)
  case hstab =>
    intro e he v x y hxy hv
    simp only [List.mem_cons, List.not_mem_nil, or_false] at he
  case hlex =>
    intro U
    have q0 := fun (v : Later (later U)) => own_row (any_own ⟨v, rfl⟩ (any_own ⟨U, rfl⟩ s0_w1))
    have q1 := fun (v : Later (later U)) => own_row (any_own ⟨v, rfl⟩ (any_own ⟨U, rfl⟩ s1_w1))
    simp only [absFrom, absOp, idx, List.map_cons, List.map_nil, List.contains_cons, List.contains_nil, Nat.reduceBEq, Bool.or_false, Bool.false_or, Bool.true_or, Bool.or_true, Bool.false_eq_true, Nat.reduceLeDiff, Nat.reduceAdd, if_false, if_true]
    repeat (go_big_quiet_step ((go_at_call 67; exact in_later (HAh.out _ _ _ (by repeat' (first | with_reducible assumption | with_reducible exact AnyLater.refl _ | with_reducible apply AnyLater.setCell | with_reducible apply AnyLater.later | with_reducible apply AnyLater.drewN | with_reducible apply AnyLater.drew | with_reducible apply AnyLater.alloc | ((try simp only [World.size_alloc, World.size_setCell, World.size_drew]); (try dsimp only); omega))) (by assumption)))))
    exact wpQuiet_nil rfl
  case hown =>
    intro e he o ho
    simp only [List.mem_cons, List.not_mem_nil, or_false] at he
  case htail =>
    intro g u hst hne
    have b_w2 : AnyLater w1 (later u) := ⟨u, rfl⟩
    generalize later u = w2 at *
    clear u
    clear hst hne
    simp only [fillAll, Act.put, List.setIfInBounds_toArray, List.set_cons_zero, List.set_cons_succ, List.drop_succ_cons, List.drop_zero]
    have z_w2 := b_w2.below.size
    have a_w2 := a_w1.trans b_w2
    have s0_w2 := any_own b_w2 s0_w1
    have s1_w2 := any_own b_w2 s1_w1
    have r0_w2 := own_row s0_w2
    have f0_w2 := own_free s0_w2
    have l0_w2 := own_lt s0_w2
    have r1_w2 := own_row s1_w2
    have f1_w2 := own_free s1_w2
    have l1_w2 := own_lt s1_w2
    (try clear r0_w1); (try clear f0_w1)
    (try clear r1_w1); (try clear f1_w1)
    go_wp2_with fail
    apply wp_region_mem (17) [] (by kernel_rfl) (by kernel_rfl) (by simp)
    case hstab =>
      intro e he v x y hxy hv
      simp only [List.mem_cons, List.not_mem_nil, or_false] at he
    case hlex =>
      intro U
      have q0 := fun (v : Later (later U)) => own_row (any_own ⟨v, rfl⟩ (any_own ⟨U, rfl⟩ s0_w2))
      have q1 := fun (v : Later (later U)) => own_row (any_own ⟨v, rfl⟩ (any_own ⟨U, rfl⟩ s1_w2))
      simp only [absFrom, absOp, idx, List.map_cons, List.map_nil, List.contains_cons, List.contains_nil, Nat.reduceBEq, Bool.or_false, Bool.false_or, Bool.true_or, Bool.or_true, Bool.false_eq_true, Nat.reduceLeDiff, Nat.reduceAdd, if_false, if_true]
      repeat (go_big_quiet_step (fail))
      exact wpQuiet_nil rfl
    case hown =>
      intro e he o ho
      simp only [List.mem_cons, List.not_mem_nil, or_false] at he
    case htail =>
      intro g u hst hne
      have b_w3 : AnyLater w2 (later u) := ⟨u, rfl⟩
      generalize later u = w3 at *
      clear u
      clear hst hne
      simp only [fillAll, Act.put, List.setIfInBounds_toArray, List.set_cons_zero, List.set_cons_succ, List.drop_succ_cons, List.drop_zero]
      have z_w3 := b_w3.below.size
      have a_w3 := a_w2.trans b_w3
      have s0_w3 := any_own b_w3 s0_w2
      have s1_w3 := any_own b_w3 s1_w2
      have r0_w3 := own_row s0_w3
      have f0_w3 := own_free s0_w3
      have l0_w3 := own_lt s0_w3
      have r1_w3 := own_row s1_w3
      have f1_w3 := own_free s1_w3
      have l1_w3 := own_lt s1_w3
      (try clear r0_w2); (try clear f0_w2)
      (try clear r1_w2); (try clear f1_w2)
      go_wp2_with fail
      have HA : AnyLater w (((w3.setCell ⟨w.heap.size + 1, 0, none⟩ (.slice A3 (t - f) cap3)).setCell ⟨w.heap.size + 1, 1, none⟩ (.slice A4 (j - i) cap4)).setCell ⟨w.heap.size + 1, 2, none⟩ (.int .i64 (b0 + (f : Int)))) := by repeat' (first | with_reducible assumption | with_reducible exact AnyLater.refl _ | with_reducible apply AnyLater.setCell | with_reducible apply AnyLater.later | with_reducible apply AnyLater.drewN | with_reducible apply AnyLater.drew | with_reducible apply AnyLater.alloc | ((try simp only [World.size_alloc, World.size_setCell, World.size_drew]); (try dsimp only); omega))
      refine bodyPost_ret (v := .agg #[.slice A3 (t - f) cap3, .slice A4 (j - i) cap4, .int .i64 (b0 + (f : Int))]) (by simp [results, Tryd.results53, go_sem, *]) rfl ?_
      exact ⟨_, rfl, HA, HM.out _ HA⟩
end Go.Proofs.YtkobnijjahpifaaDoor
